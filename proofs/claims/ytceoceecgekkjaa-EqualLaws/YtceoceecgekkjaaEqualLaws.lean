/- Proved: eggboxlaw12.EqualLaws answers true at all automata's data a, b and c (P12.5): Equal of one and itself is true, Inside goes on from two to the third; Escape is Meet with what the second does not accept, and Differ is that of what both do not accept; its arguments read behind the call as before. -/
import Derived.Test.YtceoceecgekkjaaJu
import Derived.Test.YtceoceecgekkjaaInb
import Derived.Test.YtceoceecgekkjaaLq
import Derived.Deep.RegionHeld3
namespace Go.Proofs.Ytceoceecgekkjaa.equalLaws
open Go Go.ChangeShapes Go.WideShapes Go.ChangeAt Go.RowKit Go.Lib
open Go.ChangeMaps (open_string shut_string)
set_option linter.unusedVariables false

theorem good_len {A : Aut} (G : Good A) : A.nx.length ≤ 9223372036854775806 ∧ A.ac.length ≤ 9223372036854775806 := by
  have h1 := G.len
  have h2 := G.n2
  have h3 : (A.ac.length : Int) * A.k ≤ 4096 * 8 := Int.mul_le_mul (by omega) G.k8 (by have := G.k1; omega) (by omega)
  omega
theorem ck_good {A B : Aut} (h0 : ckE A B = 0) : Good A ∧ Good B ∧ A.k = B.k := by
  rcases ckE_cases A B with ⟨g1, g2, hk, _⟩ | ⟨_, _, _, h3⟩ | ⟨_, h3⟩ | ⟨_, _, h3⟩
  · exact ⟨g1, g2, hk⟩
  · rw [h3] at h0; exact absurd h0 (by decide)
  · rw [h3] at h0; exact absurd h0 (by decide)
  · rw [h3] at h0; exact absurd h0 (by decide)
theorem lsh_same {S T : Type} {d : S → Nat → S} {d' : T → Nat → T} {K : Nat} {sh : S → Bool} {sh' : T → Bool} {x : S} {x' : T} (h : ∀ v, (∀ a ∈ v, a < K) → sh (wrun d x v) = sh' (wrun d' x' v)) : lsh d K sh x = lsh d' K sh' x' := by
  cases q : lsh d' K sh' x' with
  | none => exact lsh_none (fun v hv => by rw [h v hv]; exact lsh_no q v hv)
  | some u =>
    have L := lsh_is q
    exact lsh_some ⟨L.1, by rw [h u L.1]; exact L.2.1, fun v hv hs => L.2.2 v hv (by rw [← h v hv]; exact hs)⟩
theorem sx_w (A B : Aut) (v : List Nat) : sx A B (wrun (dd A B) (0, 0) v) = (acW A 0 v != acW B 0 v) := by rw [wrun_dd]; rfl
theorem se_w (A B : Aut) (v : List Nat) : se A B (wrun (dd A B) (0, 0) v) = (acW A 0 v && !acW B 0 v) := by rw [wrun_dd]; rfl
theorem sm_w (A B : Aut) (v : List Nat) : sm A B (wrun (dd A B) (0, 0) v) = (acW A 0 v && acW B 0 v) := by rw [wrun_dd]; rfl
theorem self_eq {A : Aut} (G : Good A) : eqB A A (sx A A) = true := by
  have e := ckE_ok G G rfl
  unfold eqB eqO
  rw [e, if_pos rfl, lsh_none (fun v hv => by rw [sx_w]; simp)]
  rfl
theorem in_eq {A B : Aut} (G : Good A) (H : Good B) (hk : A.k = B.k) : eqB A B (se A B) = true ↔ ∀ v, Lk A.k.toNat v → acW A 0 v = true → acW B 0 v = true := by
  have e := ckE_ok G H hk
  unfold eqB eqO
  rw [e, if_pos rfl]
  constructor
  · intro h v hv ha
    cases q : lsh (dd A B) A.k.toNat (se A B) (0, 0) with
    | some u => rw [q] at h; simp [apF] at h
    | none =>
      have := lsh_no q v hv
      rw [se_w, ha] at this
      simpa using this
  · intro h
    rw [lsh_none (fun v hv => by
      rw [se_w]
      cases q : acW A 0 v with
      | false => rfl
      | true => rw [h v hv q]; rfl)]
    rfl
theorem in_trans {A B C : Aut} (G : Good A) (H : Good B) (I : Good C) (h1 : A.k = B.k) (h2 : B.k = C.k) : eqB A B (se A B) = true → eqB B C (se B C) = true → eqB A C (se A C) = true := by
  rw [in_eq G H h1, in_eq H I h2, in_eq G I (h1.trans h2)]
  intro q1 q2 v hv ha
  exact q2 v (by rw [← h1]; exact hv) (q1 v hv ha)
theorem esc_meet {A B : Aut} (G : Good A) (H : Good B) (hk : A.k = B.k) : eqO A B (se A B) = eqO A (notA B) (sm A (notA B)) ∧ eqO A B (sx A B) = eqO (notA A) (notA B) (sx (notA A) (notA B)) := by
  have ga := (good_re G).2.2.2
  have gb := (good_re H).2.2.2
  have ka := (not_lang G (Lk.nil _)).2
  have kb := (not_lang H (Lk.nil _)).2
  unfold eqO
  rw [ckE_ok G H hk, ckE_ok G gb (by rw [kb]; exact hk), ckE_ok ga gb (by rw [ka, kb]; exact hk), if_pos rfl, if_pos rfl, if_pos rfl, if_pos rfl, ka]
  refine ⟨lsh_same (fun v hv => ?_), lsh_same (fun v hv => ?_)⟩
  · rw [se_w, sm_w, (not_lang H (u := v) (by rw [← hk]; exact hv)).1]
  · rw [sx_w, sx_w, (not_lang H (u := v) (by rw [← hk]; exact hv)).1, (not_lang G (u := v) hv).1]
    cases acW A 0 v <;> cases acW B 0 v <;> rfl

set_option maxHeartbeats 16000000 in
set_option maxRecDepth 100000 in
theorem walk (va : Value) (A : Aut) (vb : Value) (B : Aut) (vc : Value) (C : Aut) (w : World) (ha : AR w va A) (hna : NilOk va) (hma : (A.nx.length + 2) * 8 ≤ 140737488355328) (hma2 : A.ac.length ≤ 140737488355328) (hb : AR w vb B) (hnb : NilOk vb) (hmb : (B.nx.length + 2) * 8 ≤ 140737488355328) (hmb2 : B.ac.length ≤ 140737488355328) (hc : AR w vc C) (hnc : NilOk vc) (hmc : (C.nx.length + 2) * 8 ≤ 140737488355328) (hmc2 : C.ac.length ≤ 140737488355328) :
    Calls Try.prog 7 #[va, vb, vc] w fun e w' => e = .returned (.bool true) ∧ Below w.heap.size w w' := by
  obtain ⟨an, cn, aa, ca, ea, _, _⟩ := ha.is
  obtain ⟨bn, dn, ba, da, eb, _, _⟩ := hb.is
  obtain ⟨xn, yn, xa, ya, ec, _, _⟩ := hc.is
  have hA1 : A.nx.length ≤ 9223372036854775806 := by omega
  have hA2 : A.ac.length ≤ 9223372036854775806 := by omega
  have hB1 : B.nx.length ≤ 9223372036854775806 := by omega
  have hB2 : B.ac.length ≤ 9223372036854775806 := by omega
  have hC1 : C.nx.length ≤ 9223372036854775806 := by omega
  have hC2 : C.ac.length ≤ 9223372036854775806 := by omega
  subst ea eb ec
  obtain ⟨V, hV⟩ : ∃ V, V = (((w.alloc (.cells #[.int .i64 A.k, .slice an A.nx.length cn, .slice aa A.ac.length ca] 25)).alloc (.cells #[.int .i64 B.k, .slice bn B.nx.length dn, .slice ba B.ac.length da] 25)).alloc (.cells #[.int .i64 C.k, .slice xn C.nx.length yn, .slice xa C.ac.length ya] 25)) := ⟨_, rfl⟩
  have HVE : Hid (V = (((w.alloc (.cells #[.int .i64 A.k, .slice an A.nx.length cn, .slice aa A.ac.length ca] 25)).alloc (.cells #[.int .i64 B.k, .slice bn B.nx.length dn, .slice ba B.ac.length da] 25)).alloc (.cells #[.int .i64 C.k, .slice xn C.nx.length yn, .slice xa C.ac.length ya] 25))) := hV
  have HBV : Hid (Below w.heap.size w V) := by show Below _ _ _; rw [hV]; exact go_on (go_on (below_new _ _) (below_new _ _)) (below_new _ _)
  have HRA : Hid (RowAt V w.heap.size #[.int .i64 A.k, .slice an A.nx.length cn, .slice aa A.ac.length ca]) := by show RowAt _ _ _; rw [hV]; exact ((RowAt.last _ _ _).alloc _).alloc _
  have HRB : Hid (RowAt V (w.heap.size + 1) #[.int .i64 B.k, .slice bn B.nx.length dn, .slice ba B.ac.length da]) := by
    show RowAt _ _ _
    rw [hV]
    have := (RowAt.last (w.alloc (.cells #[.int .i64 A.k, .slice an A.nx.length cn, .slice aa A.ac.length ca] 25)) #[.int .i64 B.k, .slice bn B.nx.length dn, .slice ba B.ac.length da] 25).alloc (.cells #[.int .i64 C.k, .slice xn C.nx.length yn, .slice xa C.ac.length ya] 25)
    simpa using this
  have HRC : Hid (RowAt V (w.heap.size + 1 + 1) #[.int .i64 C.k, .slice xn C.nx.length yn, .slice xa C.ac.length ya]) := by
    show RowAt _ _ _
    rw [hV]
    have := RowAt.last ((w.alloc (.cells #[.int .i64 A.k, .slice an A.nx.length cn, .slice aa A.ac.length ca] 25)).alloc (.cells #[.int .i64 B.k, .slice bn B.nx.length dn, .slice ba B.ac.length da] 25)) #[.int .i64 C.k, .slice xn C.nx.length yn, .slice xa C.ac.length ya] 25
    simpa using this
  clear hV
  have HG1 : Hid (∀ b, decide (ckE A B = 0) = b → ∀ y, Below w.heap.size w y → Calls Try.prog 23 #[.agg #[.int .i64 A.k, .slice an A.nx.length cn, .slice aa A.ac.length ca], .agg #[.int .i64 B.k, .slice bn B.nx.length dn, .slice ba B.ac.length da]] y fun e w' => e = .returned (.bool b) ∧ Below y.heap.size y w') := fun b hbb y hy => good_any _ _ A B y (ha.stay hy) (hb.stay hy) hA1 hA2 hB1 hB2 b hbb
  have HG2 : Hid (∀ b, decide (ckE B C = 0) = b → ∀ y, Below w.heap.size w y → Calls Try.prog 23 #[.agg #[.int .i64 B.k, .slice bn B.nx.length dn, .slice ba B.ac.length da], .agg #[.int .i64 C.k, .slice xn C.nx.length yn, .slice xa C.ac.length ya]] y fun e w' => e = .returned (.bool b) ∧ Below y.heap.size y w') := fun b hbb y hy => good_any _ _ B C y (hb.stay hy) (hc.stay hy) hB1 hB2 hC1 hC2 b hbb
  by_cases h0 : ckE A B = 0
  case neg =>
    have HG : Hid (∀ y, Below w.heap.size w y → Calls Try.prog 23 #[.agg #[.int .i64 A.k, .slice an A.nx.length cn, .slice aa A.ac.length ca], .agg #[.int .i64 B.k, .slice bn B.nx.length dn, .slice ba B.ac.length da]] y fun e w' => e = .returned (.bool false) ∧ Below y.heap.size y w') := HG1.out false (decide_eq_false h0)
    clear ha hb hc hna hnb hnc hma hma2 hmb hmb2 hmc hmc2 HG1 HG2
    go_enter Try.func7, Try.ntmps7
    go_wp2_with fail
    rw [← HVE.out]
    refine (HG.out V HBV.out).mono ?_
    rintro e w1 ⟨rfl, hb1⟩
    have HB1 : Hid (Below w.heap.size w w1) := go_on HBV.out hb1
    clear hb1
    go_wp2_with (first
      | (go_at_call 16; refine (live12_any _).mono ?_; rintro e y6 ⟨rfl, hy6⟩; have HY6 : Hid (Below w.heap.size w y6) := go_on HB1.out hy6; clear hy6))
    go_ret
    exact ⟨rfl, HY6.out⟩
  case pos =>
  have HGa : Hid (∀ y, Below w.heap.size w y → Calls Try.prog 23 #[.agg #[.int .i64 A.k, .slice an A.nx.length cn, .slice aa A.ac.length ca], .agg #[.int .i64 B.k, .slice bn B.nx.length dn, .slice ba B.ac.length da]] y fun e w' => e = .returned (.bool true) ∧ Below y.heap.size y w') := HG1.out true (decide_eq_true h0)
  by_cases h1 : ckE B C = 0
  case neg =>
    have HG : Hid (∀ y, Below w.heap.size w y → Calls Try.prog 23 #[.agg #[.int .i64 B.k, .slice bn B.nx.length dn, .slice ba B.ac.length da], .agg #[.int .i64 C.k, .slice xn C.nx.length yn, .slice xa C.ac.length ya]] y fun e w' => e = .returned (.bool false) ∧ Below y.heap.size y w') := HG2.out false (decide_eq_false h1)
    clear ha hb hc hna hnb hnc hma hma2 hmb hmb2 hmc hmc2 HG1 HG2
    go_enter Try.func7, Try.ntmps7
    go_wp2_with fail
    rw [← HVE.out]
    refine (HGa.out V HBV.out).mono ?_
    rintro e w1 ⟨rfl, hb1⟩
    have HB1 : Hid (Below w.heap.size w w1) := go_on HBV.out hb1
    have cb1 := (HRB.out.stay hb1).cell
    have cc1 := (HRC.out.stay hb1).cell
    clear hb1
    go_wp2_with fail
    refine (HG.out _ HB1.out).mono ?_
    rintro e w2 ⟨rfl, hb2⟩
    have HB2 : Hid (Below w.heap.size w w2) := go_on HB1.out hb2
    clear hb2
    go_wp2_with (first
      | (go_at_call 16; refine (live12_any _).mono ?_; rintro e y6 ⟨rfl, hy6⟩; have HY6 : Hid (Below w.heap.size w y6) := go_on HB2.out hy6; clear hy6))
    go_ret
    exact ⟨rfl, HY6.out⟩
  case pos =>
  have HGb : Hid (∀ y, Below w.heap.size w y → Calls Try.prog 23 #[.agg #[.int .i64 B.k, .slice bn B.nx.length dn, .slice ba B.ac.length da], .agg #[.int .i64 C.k, .slice xn C.nx.length yn, .slice xa C.ac.length ya]] y fun e w' => e = .returned (.bool true) ∧ Below y.heap.size y w') := HG2.out true (decide_eq_true h1)
  obtain ⟨G, H, hk⟩ := ck_good h0
  obtain ⟨_, I, hk'⟩ := ck_good h1
  have h2 : ckE A C = 0 := ckE_ok G I (hk.trans hk')
  have h3 : ckE A A = 0 := ckE_ok G G rfl
  obtain ⟨ab, hab⟩ : ∃ x, eqB A B (se A B) = x := ⟨_, rfl⟩
  obtain ⟨bc, hbc⟩ : ∃ x, eqB B C (se B C) = x := ⟨_, rfl⟩
  obtain ⟨ac, hac⟩ : ∃ x, eqB A C (se A C) = x := ⟨_, rfl⟩
  have HTR : Hid (ab = true → bc = true → ac = true) := fun q1 q2 => by rw [← hac]; exact in_trans G H I hk hk' (by rw [hab]; exact q1) (by rw [hbc]; exact q2)
  obtain ⟨em1, em2⟩ := esc_meet G H hk
  have ga := (good_re G).2.2.2
  have gb := (good_re H).2.2.2
  have ka := (not_lang G (Lk.nil _)).2
  have kb := (not_lang H (Lk.nil _)).2
  have h4 : ckE A (notA B) = 0 := ckE_ok G gb (by rw [kb]; exact hk)
  have h5 : ckE (notA A) (notA B) = 0 := ckE_ok ga gb (by rw [ka, kb]; exact hk)
  obtain ⟨M, hMe⟩ : ∃ M, notA A = M := ⟨_, rfl⟩
  obtain ⟨N, hNe⟩ : ∃ N, notA B = N := ⟨_, rfl⟩
  obtain ⟨u, hu⟩ : ∃ x, apS (eqO A B (se A B)) = x := ⟨_, rfl⟩
  obtain ⟨es, hes⟩ : ∃ x, apF (eqO A B (se A B)) = x := ⟨_, rfl⟩
  obtain ⟨d, hd⟩ : ∃ x, apS (eqO A B (sx A B)) = x := ⟨_, rfl⟩
  obtain ⟨df, hdf⟩ : ∃ x, apF (eqO A B (sx A B)) = x := ⟨_, rfl⟩
  have lA := good_len ga
  have lB := good_len gb
  rw [hMe] at lA em2 h5
  rw [hNe] at lB em1 em2 h4 h5
  have C1 : Hid (∀ y, Below w.heap.size w y → Calls Try.prog 10 #[.agg #[.int .i64 A.k, .slice an A.nx.length cn, .slice aa A.ac.length ca], .agg #[.int .i64 A.k, .slice an A.nx.length cn, .slice aa A.ac.length ca]] y fun e w' => e = .returned (.tuple #[.bool true, .int .i64 0]) ∧ Below y.heap.size y w') := fun y hy => by
    have := eeq_any _ _ A A y (ha.stay hy) (ha.stay hy) hA1 hA2 hA1 hA2
    rwa [self_eq G, h3] at this
  have C2 : Hid (∀ y, Below w.heap.size w y → Calls Try.prog 12 #[.agg #[.int .i64 A.k, .slice an A.nx.length cn, .slice aa A.ac.length ca], .agg #[.int .i64 B.k, .slice bn B.nx.length dn, .slice ba B.ac.length da]] y fun e w' => e = .returned (.tuple #[.bool ab, .int .i64 0]) ∧ Below y.heap.size y w') := fun y hy => by
    have := ein_any _ _ A B y (ha.stay hy) (hb.stay hy) hA1 hA2 hB1 hB2
    rwa [hab, h0] at this
  have C3 : Hid (∀ y, Below w.heap.size w y → Calls Try.prog 12 #[.agg #[.int .i64 B.k, .slice bn B.nx.length dn, .slice ba B.ac.length da], .agg #[.int .i64 C.k, .slice xn C.nx.length yn, .slice xa C.ac.length ya]] y fun e w' => e = .returned (.tuple #[.bool bc, .int .i64 0]) ∧ Below y.heap.size y w') := fun y hy => by
    have := ein_any _ _ B C y (hb.stay hy) (hc.stay hy) hB1 hB2 hC1 hC2
    rwa [hbc, h1] at this
  have C4 : Hid (∀ y, Below w.heap.size w y → Calls Try.prog 12 #[.agg #[.int .i64 A.k, .slice an A.nx.length cn, .slice aa A.ac.length ca], .agg #[.int .i64 C.k, .slice xn C.nx.length yn, .slice xa C.ac.length ya]] y fun e w' => e = .returned (.tuple #[.bool ac, .int .i64 0]) ∧ Below y.heap.size y w') := fun y hy => by
    have := ein_any _ _ A C y (ha.stay hy) (hc.stay hy) hA1 hA2 hC1 hC2
    rwa [hac, h2] at this
  have C5 : Hid (∀ y, Below w.heap.size w y → Calls Try.prog 27 #[.agg #[.int .i64 A.k, .slice an A.nx.length cn, .slice aa A.ac.length ca]] y (FQ M 0 y)) := fun y hy => by
    have := not_any _ A y (ha.stay hy) hA1 hA2
    rwa [chkA_ok G, hMe] at this
  have C6 : Hid (∀ y, Below w.heap.size w y → Calls Try.prog 27 #[.agg #[.int .i64 B.k, .slice bn B.nx.length dn, .slice ba B.ac.length da]] y (FQ N 0 y)) := fun y hy => by
    have := not_any _ B y (hb.stay hy) hB1 hB2
    rwa [chkA_ok H, hNe] at this
  have C7 : Hid (∀ y, Below w.heap.size w y → Calls Try.prog 19 #[.agg #[.int .i64 A.k, .slice an A.nx.length cn, .slice aa A.ac.length ca], .agg #[.int .i64 B.k, .slice bn B.nx.length dn, .slice ba B.ac.length da]] y fun e w' => e = .returned (.tuple #[.string u, .bool es, .int .i64 0]) ∧ Below y.heap.size y w') := fun y hy => by
    refine Calls.mono (ees_any _ _ A B y (ha.stay hy) (hb.stay hy) hA1 hA2 hB1 hB2) ?_
    rintro e w' ⟨rfl, _, h3⟩
    exact ⟨by rw [hu, hes, h0], h3⟩
  have C8 : Hid (∀ y x, Below w.heap.size w y → AR y x N → Calls Try.prog 21 #[.agg #[.int .i64 A.k, .slice an A.nx.length cn, .slice aa A.ac.length ca], x] y fun e w' => e = .returned (.tuple #[.string u, .bool es, .int .i64 0]) ∧ Below y.heap.size y w') := fun y x hy hx => by
    refine Calls.mono (eme_any _ _ A N y (ha.stay hy) hx hA1 hA2 lB.1 lB.2) ?_
    rintro e w' ⟨rfl, _, h3⟩
    exact ⟨by rw [← em1, hu, hes, h4], h3⟩
  have C9 : Hid (∀ y, Below w.heap.size w y → Calls Try.prog 17 #[.agg #[.int .i64 A.k, .slice an A.nx.length cn, .slice aa A.ac.length ca], .agg #[.int .i64 B.k, .slice bn B.nx.length dn, .slice ba B.ac.length da]] y fun e w' => e = .returned (.tuple #[.string d, .bool df, .int .i64 0]) ∧ Below y.heap.size y w') := fun y hy => by
    refine Calls.mono (edf_any _ _ A B y (ha.stay hy) (hb.stay hy) hA1 hA2 hB1 hB2) ?_
    rintro e w' ⟨rfl, _, h3⟩
    exact ⟨by rw [hd, hdf, h0], h3⟩
  have CX : Hid (∀ y x z, AR y x M → AR y z N → Calls Try.prog 17 #[x, z] y fun e w' => e = .returned (.tuple #[.string d, .bool df, .int .i64 0]) ∧ Below y.heap.size y w') := fun y x z hx hz => by
    refine Calls.mono (edf_any _ _ M N y hx hz lA.1 lA.2 lB.1 lB.2) ?_
    rintro e w' ⟨rfl, _, h3⟩
    exact ⟨by rw [← em2, hd, hdf, h5], h3⟩
  clear ha hb hc hna hnb hnc hma hma2 hmb hmb2 hmc hmc2 HG1 HG2 hab hbc hac hu hes hd hdf G H I hk hk' h0 h1 h2 h3 h4 h5 em1 em2 ga gb ka kb hMe hNe lA lB
  go_enter Try.func7, Try.ntmps7
  go_wp2_with fail
  rw [← HVE.out]
  refine (HGa.out V HBV.out).mono ?_
  rintro e wa ⟨rfl, hba⟩
  have HVa : Hid (Below V.heap.size V wa) := hba
  have cba := (HRB.out.stay hba).cell
  have cca := (HRC.out.stay hba).cell
  clear hba
  go_wp2_with fail
  refine (HGb.out wa (go_on HBV.out HVa.out)).mono ?_
  rintro e w0 ⟨rfl, hb0⟩
  have HV0 : Hid (Below V.heap.size V w0) := go_on HVa.out hb0
  have ca0 := (HRA.out.stay HV0.out).cell
  have cb0 := (HRB.out.stay HV0.out).cell
  have cc0 := (HRC.out.stay HV0.out).cell
  clear hb0 cba cca
  go_wp2_with fail
  refine (C1.out w0 (go_on HBV.out HV0.out)).mono ?_
  rintro e w1 ⟨rfl, hb1⟩
  have HV1 : Hid (Below V.heap.size V w1) := go_on HV0.out hb1
  have ca1 := (HRA.out.stay HV1.out).cell
  have cb1 := (HRB.out.stay HV1.out).cell
  have cc1 := (HRC.out.stay HV1.out).cell
  clear hb1 ca0 cb0 cc0
  go_wp2_with fail
  refine (C2.out w1 (go_on HBV.out HV1.out)).mono ?_
  rintro e w2 ⟨rfl, hb2⟩
  have HV2 : Hid (Below V.heap.size V w2) := go_on HV1.out hb2
  have ca2 := (HRA.out.stay HV2.out).cell
  have cb2 := (HRB.out.stay HV2.out).cell
  have cc2 := (HRC.out.stay HV2.out).cell
  clear hb2 ca1 cb1 cc1
  go_wp2_with fail
  refine (C3.out w2 (go_on HBV.out HV2.out)).mono ?_
  rintro e w3 ⟨rfl, hb3⟩
  have HV3 : Hid (Below V.heap.size V w3) := go_on HV2.out hb3
  have ca3 := (HRA.out.stay HV3.out).cell
  have cb3 := (HRB.out.stay HV3.out).cell
  have cc3 := (HRC.out.stay HV3.out).cell
  clear hb3 ca2 cb2 cc2
  go_wp2_with fail
  refine (C4.out w3 (go_on HBV.out HV3.out)).mono ?_
  rintro e w4 ⟨rfl, hb4⟩
  have HV4 : Hid (Below V.heap.size V w4) := go_on HV3.out hb4
  have ca4 := (HRA.out.stay HV4.out).cell
  have cb4 := (HRB.out.stay HV4.out).cell
  have cc4 := (HRC.out.stay HV4.out).cell
  clear hb4 ca3 cb3 cc3
  clear C1 C2 C3 C4
  have key : Calls Try.prog 27 #[.agg #[.int .i64 A.k, .slice an A.nx.length cn, .slice aa A.ac.length ca]] w4 (FQ M 0 w4) := C5.out w4 (go_on HBV.out HV4.out)
  cases ab <;> cases bc <;> cases ac <;> (first | (exact absurd (HTR.out rfl rfl) (by decide)) | skip)
  all_goals (
    go_wp2_with (first
      | (go_at_call 14; refine (num12_any _ _).mono ?_; rintro e yn ⟨rfl, hyn⟩; subst yn))
    refine key.mono ?_
    rintro e w5 ⟨v5, rfl, ha5, hb5⟩
    obtain ⟨n5, c5, a5, d5, rfl, o5, p5⟩ := ha5
    obtain ⟨U5, hU5⟩ : ∃ U5, U5 = w5.alloc (.cells #[.int .i64 M.k, .slice n5 M.nx.length c5, .slice a5 M.ac.length d5] 25) := ⟨_, rfl⟩
    have HUE5 : Hid (U5 = w5.alloc (.cells #[.int .i64 M.k, .slice n5 M.nx.length c5, .slice a5 M.ac.length d5] 25)) := hU5
    have HN5 : Hid (Below w5.heap.size w5 U5) := by show Below _ _ _; rw [hU5]; exact below_new _ _
    have HV5 : Hid (Below V.heap.size V U5) := go_on (go_on HV4.out hb5) HN5.out
    have HR5 : Hid (RowAt U5 w5.heap.size #[.int .i64 M.k, .slice n5 M.nx.length c5, .slice a5 M.ac.length d5]) := by show RowAt _ _ _; rw [hU5]; exact RowAt.last _ _ _
    have HX5 : Hid (∀ y, Below U5.heap.size U5 y → AR y (.agg #[.int .i64 M.k, .slice n5 M.nx.length c5, .slice a5 M.ac.length d5]) M) := fun y hy => ⟨_, _, _, _, rfl, ((own_sr o5).stay HN5.out).stay hy, ((own_sr p5).stay HN5.out).stay hy⟩
    have cx : ∀ o, (w5.alloc (.cells #[.int .i64 M.k, .slice n5 M.nx.length c5, .slice a5 M.ac.length d5] 25)).cell? ⟨w.heap.size + 1, o, none⟩ = (#[.int .i64 B.k, .slice bn B.nx.length dn, .slice ba B.ac.length da] : Array Value)[o]? := by have := (HRB.out.stay HV5.out).cell; rw [hU5] at this; exact this
    clear hb5 o5 p5 hU5
    go_wp2_with fail
    rw [← HUE5.out]
    clear cx
    refine (C6.out _ (go_on HBV.out HV5.out)).mono ?_
    rintro e w6 ⟨v6, rfl, ha6, hb6⟩
    obtain ⟨n6, c6, a6, d6, rfl, o6, p6⟩ := ha6
    obtain ⟨U6, hU6⟩ : ∃ U6, U6 = w6.alloc (.cells #[.int .i64 N.k, .slice n6 N.nx.length c6, .slice a6 N.ac.length d6] 25) := ⟨_, rfl⟩
    have HUE6 : Hid (U6 = w6.alloc (.cells #[.int .i64 N.k, .slice n6 N.nx.length c6, .slice a6 N.ac.length d6] 25)) := hU6
    have HN6 : Hid (Below w6.heap.size w6 U6) := by show Below _ _ _; rw [hU6]; exact below_new _ _
    have HU56 : Hid (Below U5.heap.size U5 U6) := go_on hb6 HN6.out
    have HV6 : Hid (Below V.heap.size V U6) := go_on HV5.out HU56.out
    have HR6 : Hid (RowAt U6 w6.heap.size #[.int .i64 N.k, .slice n6 N.nx.length c6, .slice a6 N.ac.length d6]) := by show RowAt _ _ _; rw [hU6]; exact RowAt.last _ _ _
    have HX6 : Hid (∀ y, Below U6.heap.size U6 y → AR y (.agg #[.int .i64 N.k, .slice n6 N.nx.length c6, .slice a6 N.ac.length d6]) N) := fun y hy => ⟨_, _, _, _, rfl, ((own_sr o6).stay HN6.out).stay hy, ((own_sr p6).stay HN6.out).stay hy⟩
    have cx : ∀ o, (w6.alloc (.cells #[.int .i64 N.k, .slice n6 N.nx.length c6, .slice a6 N.ac.length d6] 25)).cell? ⟨w.heap.size, o, none⟩ = (#[.int .i64 A.k, .slice an A.nx.length cn, .slice aa A.ac.length ca] : Array Value)[o]? := by have := (HRA.out.stay HV6.out).cell; rw [hU6] at this; exact this
    have cy : ∀ o, (w6.alloc (.cells #[.int .i64 N.k, .slice n6 N.nx.length c6, .slice a6 N.ac.length d6] 25)).cell? ⟨w.heap.size + 1, o, none⟩ = (#[.int .i64 B.k, .slice bn B.nx.length dn, .slice ba B.ac.length da] : Array Value)[o]? := by have := (HRB.out.stay HV6.out).cell; rw [hU6] at this; exact this
    clear hb6 o6 p6 hU6
    go_wp2_with (first
      | (go_at_call 14; refine (num12_any _ _).mono ?_; rintro e yn ⟨rfl, hyn⟩; subst yn))
    rw [← HUE6.out]
    clear cx cy
    refine (C7.out _ (go_on HBV.out HV6.out)).mono ?_
    rintro e w7 ⟨rfl, hb7⟩
    have HU7 : Hid (Below U6.heap.size U6 w7) := hb7
    have HV7 : Hid (Below V.heap.size V w7) := go_on HV6.out hb7
    have cx := (HRA.out.stay HV7.out).cell
    have cy := (HR6.out.stay hb7).cell
    clear hb7
    go_wp2_with fail
    clear cx cy
    refine (C8.out _ _ (go_on HBV.out HV7.out) (HX6.out _ HU7.out)).mono ?_
    rintro e w8 ⟨rfl, hb8⟩
    have HU8 : Hid (Below U6.heap.size U6 w8) := go_on HU7.out hb8
    have HV8 : Hid (Below V.heap.size V w8) := go_on HV7.out hb8
    have cx := (HRA.out.stay HV8.out).cell
    have cy := (HRB.out.stay HV8.out).cell
    clear hb8
    go_wp2_with fail
    clear cx cy
    refine (C9.out _ (go_on HBV.out HV8.out)).mono ?_
    rintro e w9 ⟨rfl, hb9⟩
    have HU9 : Hid (Below U6.heap.size U6 w9) := go_on HU8.out hb9
    have HV9 : Hid (Below V.heap.size V w9) := go_on HV8.out hb9
    have cx := (HR5.out.stay (go_on HU56.out HU9.out)).cell
    have cy := (HR6.out.stay HU9.out).cell
    clear hb9
    go_wp2_with fail
    clear cx cy
    refine (CX.out _ _ _ (HX5.out _ (go_on HU56.out HU9.out)) (HX6.out _ HU9.out)).mono ?_
    rintro e wz ⟨rfl, hbz⟩
    have HBZ : Hid (Below w.heap.size w wz) := go_on (go_on HBV.out HV9.out) hbz
    clear hbz
    cases es <;> cases df <;> (
      go_wp2_with (first
        | (go_at_call 14; refine (num12_any _ _).mono ?_; rintro e yn ⟨rfl, hyn⟩; subst yn)
        | (go_at_call 16; refine (live12_any _).mono ?_; rintro e y6 ⟨rfl, hy6⟩; have HY6 : Hid (Below w.heap.size w y6) := go_on HBZ.out hy6; clear hy6))
      go_ret
      exact ⟨rfl, HY6.out⟩))

/-! ### The row's step -/
theorem own : ownKnob Try.prog.godebug = none := by kernel_rfl
set_option maxRecDepth 100000 in
theorem lifted (os : Os) (started : os.Started) (H : Type) (enc : TypeId × Value → H) :
    ReturnsInHanded {} Try.checked os 7 .any (Rows.equalLawsSpec.pre6 enc Try.prog Try.f7 Rows.equalLawsRow.domain false) (Rows.equalLawsSpec.post enc Try.prog Try.f7 false true false false) := by
  refine returnsInHanded_of_change_sized (C := Try.checked) own started (by kernel_rfl) Try.func7
    (ChangeSpec.witness6 (enc := enc) (C := Try.checked) false ⟨#[], #[.agg #[.int .i64 0, .slice none 0 0, .slice none 0 0], .agg #[.int .i64 0, .slice none 0 0, .slice none 0 0], .agg #[.int .i64 0, .slice none 0 0, .slice none 0 0]], []⟩ 8 (by kernel_rfl) (by kernel_rfl) (by kernel_rfl) (by kernel_rfl)) ?_
  intro W base args ds gs before hval0 hW hcnd hsz0 _
  have hval : ∀ (j : Nat) t v, Try.f7.params[j]? = some t → args[j]? = some v → Value.okWide Try.prog W .any base t v := hval0
  clear hval0
  have hsz : (DataW.weightsEach Try.prog (Try.f7.params.toList ++ Rows.equalLawsSpec.plain.varTypes Try.prog) (ds ++ gs)).all (· ≤ reachBytes) = true := hsz0
  clear hsz0
  have hW' := hW
  obtain ⟨p, q, hA0, hV, rfl, hfz, hnd⟩ := hW
  have hA : DataW.TrodAll enc Try.prog W 0 (fun _ => true) true Try.f7.params.toList args.toList ds p := hA0
  rw [Try.params7] at hA hval hsz
  obtain ⟨v0, vs0, d0, ds0, p0, q0, hargs, rfl, rfl, h0, r0⟩ := trodAll_cons hA
  obtain ⟨v1, vs1, d1, ds1, p1, q1, rfl, rfl, rfl, h1, r1⟩ := trodAll_cons r0
  obtain ⟨v2, vs2, d2, ds2, p2, q2, rfl, rfl, rfl, h2, r2⟩ := trodAll_cons r1
  obtain ⟨rfl, rfl, rfl⟩ := trodAll_nil r2
  obtain rfl : args = #[v0, v1, v2] := by cases args; simp_all
  obtain ⟨rfl, rfl⟩ := trodVars_none hV
  obtain ⟨a0, x0, n0, w0, dk0, dn0, da0, e0, y0, z0⟩ := open_auto (hval 0 25 v0 rfl rfl) h0
  have b0 := auto_bounds hsz (j := 0) rfl (by rw [e0]; rfl) y0 z0
  have g0 : ∀ x ∈ p0, x.block < W.heap.size := fun x hx => hW'.lt x (by simp [hx])
  obtain ⟨a1, x1, n1, w1, dk1, dn1, da1, e1, y1, z1⟩ := open_auto (hval 1 25 v1 rfl rfl) h1
  have b1 := auto_bounds hsz (j := 1) rfl (by rw [e1]; rfl) y1 z1
  have g1 : ∀ x ∈ p1, x.block < W.heap.size := fun x hx => hW'.lt x (by simp [hx])
  obtain ⟨a2, x2, n2, w2, dk2, dn2, da2, e2, y2, z2⟩ := open_auto (hval 2 25 v2 rfl rfl) h2
  have b2 := auto_bounds hsz (j := 2) rfl (by rw [e2]; rfl) y2 z2
  have g2 : ∀ x ∈ p2, x.block < W.heap.size := fun x hx => hW'.lt x (by simp [hx])
  clear hA0
  refine (walk v0 a0 v1 a1 v2 a2 W x0 n0 b0.1 b0.2 x1 n1 b1.1 b1.2 x2 n2 b2.1 b2.2).mono fun e W' ⟨he, bel⟩ => ?_
  subst he
  exact ⟨_, rfl, _, _, _, [], _, [], hW', trodAll_mk1 (shut_bool Try.underlying4 _), (trodAll_cons_mk (Below.trod Try.laidOut (by kernel_rfl) (of_decide_eq_true (by kernel_rfl)) h0 bel g0) (trodAll_cons_mk (Below.trod Try.laidOut (by kernel_rfl) (of_decide_eq_true (by kernel_rfl)) h1 bel g1) (trodAll_cons_mk (Below.trod Try.laidOut (by kernel_rfl) (of_decide_eq_true (by kernel_rfl)) h2 bel g2) trodAll_mk0))), rfl, bel.frame _, fun h => by cases h⟩

theorem over : Rows.equalLawsRow.holds Try.pinned (OpenSpec.ofChange Rows.equalLawsSpec) :=
  OpenClaim.holds_of_wide 7 Try.f7 rfl rfl rfl rfl rfl rfl rfl ⟨rfl, rfl, rfl, rfl, rfl⟩ rfl rfl rfl rfl rfl (by kernel_rfl) Try.func7 (by kernel_rfl)
    (of_decide_eq_true (by kernel_rfl)) (by unfold Func.isWrapper; first | (rw [if_pos (by decide +kernel)]; kernel_rfl) | (rw [if_neg (by decide +kernel)]; exact ⟨rfl, rfl⟩))
    (fun os started H enc _ => lifted os started H enc)

end Go.Proofs.Ytceoceecgekkjaa.equalLaws
namespace Go.Proofs.Ytceoceecgekkjaa
/-- The given statement. -/
theorem equalLaws_holds : Rows.EqualLawsSaid := equalLaws.over
end Go.Proofs.Ytceoceecgekkjaa
