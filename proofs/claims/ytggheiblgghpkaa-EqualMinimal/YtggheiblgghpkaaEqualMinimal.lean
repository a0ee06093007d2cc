/- Proved: eggboxlaw12.EqualMinimal answers true at all automata's data a and b (P12.6): two automata have one language just if their minimal automata are the same value; an automaton and its minimal one have one language. No condition. -/
import Derived.Test.YtggheiblgghpkaaJu
import Derived.Test.YtggheiblgghpkaaInb
import Derived.Test.YtggheiblgghpkaaLq
import Derived.Test.YtggheiblgghpkaaMu
import Derived.Deep.RegionHeld3
namespace Go.Proofs.Ytggheiblgghpkaa.equalMinimal
open Go Go.ChangeShapes Go.WideShapes Go.ChangeAt Go.RowKit Go.Lib
open Go.ChangeMaps (open_string shut_string)
set_option linter.unusedVariables false

theorem good_len {A : Aut} (G : Good A) : A.nx.length ≤ 9223372036854775806 ∧ A.ac.length ≤ 9223372036854775806 := by
  have h1 := G.len
  have h2 := G.n2
  have h3 : (A.ac.length : Int) * A.k ≤ 4096 * 8 := Int.mul_le_mul (by omega) G.k8 (by have := G.k1; omega) (by omega)
  omega
theorem ck_good {A B : Aut} (h0 : ckE A B = 0) : Good A ∧ Good B ∧ A.k = B.k := by
  rcases ckE_cases A B with ⟨g1, g2, hk, _⟩ | ⟨_, _, _, h3⟩ | ⟨_, h3⟩ | ⟨_, _, h3⟩
  · exact ⟨g1, g2, hk⟩
  · rw [h3] at h0; exact absurd h0 (by decide)
  · rw [h3] at h0; exact absurd h0 (by decide)
  · rw [h3] at h0; exact absurd h0 (by decide)
theorem lsh_same {S T : Type} {d : S → Nat → S} {d' : T → Nat → T} {K : Nat} {sh : S → Bool} {sh' : T → Bool} {x : S} {x' : T} (h : ∀ v, (∀ a ∈ v, a < K) → sh (wrun d x v) = sh' (wrun d' x' v)) : lsh d K sh x = lsh d' K sh' x' := by
  cases q : lsh d' K sh' x' with
  | none => exact lsh_none (fun v hv => by rw [h v hv]; exact lsh_no q v hv)
  | some u =>
    have L := lsh_is q
    exact lsh_some ⟨L.1, by rw [h u L.1]; exact L.2.1, fun v hv hs => L.2.2 v hv (by rw [← h v hv]; exact hs)⟩
theorem sx_w (A B : Aut) (v : List Nat) : sx A B (wrun (dd A B) (0, 0) v) = (acW A 0 v != acW B 0 v) := by rw [wrun_dd]; rfl
theorem se_w (A B : Aut) (v : List Nat) : se A B (wrun (dd A B) (0, 0) v) = (acW A 0 v && !acW B 0 v) := by rw [wrun_dd]; rfl
theorem sm_w (A B : Aut) (v : List Nat) : sm A B (wrun (dd A B) (0, 0) v) = (acW A 0 v && acW B 0 v) := by rw [wrun_dd]; rfl
theorem self_eq {A : Aut} (G : Good A) : eqB A A (sx A A) = true := by
  have e := ckE_ok G G rfl
  unfold eqB eqO
  rw [e, if_pos rfl, lsh_none (fun v hv => by rw [sx_w]; simp)]
  rfl
theorem in_eq {A B : Aut} (G : Good A) (H : Good B) (hk : A.k = B.k) : eqB A B (se A B) = true ↔ ∀ v, Lk A.k.toNat v → acW A 0 v = true → acW B 0 v = true := by
  have e := ckE_ok G H hk
  unfold eqB eqO
  rw [e, if_pos rfl]
  constructor
  · intro h v hv ha
    cases q : lsh (dd A B) A.k.toNat (se A B) (0, 0) with
    | some u => rw [q] at h; simp [apF] at h
    | none =>
      have := lsh_no q v hv
      rw [se_w, ha] at this
      simpa using this
  · intro h
    rw [lsh_none (fun v hv => by
      rw [se_w]
      cases q : acW A 0 v with
      | false => rfl
      | true => rw [h v hv q]; rfl)]
    rfl
theorem in_trans {A B C : Aut} (G : Good A) (H : Good B) (I : Good C) (h1 : A.k = B.k) (h2 : B.k = C.k) : eqB A B (se A B) = true → eqB B C (se B C) = true → eqB A C (se A C) = true := by
  rw [in_eq G H h1, in_eq H I h2, in_eq G I (h1.trans h2)]
  intro q1 q2 v hv ha
  exact q2 v (by rw [← h1]; exact hv) (q1 v hv ha)
theorem eq_iff {A B : Aut} (G : Good A) (H : Good B) (hk : A.k = B.k) : eqB A B (sx A B) = true ↔ ∀ v, Lk A.k.toNat v → acW A 0 v = acW B 0 v := by
  have e := ckE_ok G H hk
  unfold eqB eqO
  rw [e, if_pos rfl]
  constructor
  · intro h v hv
    cases q : lsh (dd A B) A.k.toNat (sx A B) (0, 0) with
    | some u => rw [q] at h; simp [apF] at h
    | none =>
      have := lsh_no q v hv
      rw [sx_w] at this
      simpa using this
  · intro h
    rw [lsh_none (fun v hv => by rw [sx_w, h v hv]; simp)]
    rfl
theorem eq_mn {A B : Aut} (G : Good A) (H : Good B) (hk : A.k = B.k) : eqB A B (sx A B) = true ↔ mnA A = mnA B := by
  rw [eq_iff G H hk]
  constructor
  · exact mn_eq G H hk
  · intro h v hv
    rw [← mn_lang G hv, h, mn_lang H (by rw [← hk]; exact hv)]
theorem own_mn {A : Aut} (G : Good A) : eqB A (mnA A) (sx A (mnA A)) = true := by
  obtain ⟨g1, g2, _⟩ := good_mn G
  rw [eq_iff G g1 g2.symm]
  exact fun v hv => (mn_lang G hv).symm

set_option maxHeartbeats 2000000 in
set_option maxRecDepth 100000 in
theorem sameLen_any (a1 a2 : Option Addr) (c1 c2 n m : Nat) (h : n ≠ m) (w : World) :
    Calls Try.prog 51 #[.slice a1 n c1, .slice a2 m c2] w fun e w' => e = .returned (.bool false) ∧ Below w.heap.size w w' := by
  have hI : ((n : Int) != (m : Int)) = true := by rw [bne_iff_ne]; omega
  have hI2 : ¬ ((n : Int) = (m : Int)) := by omega
  have HB : Hid (Below w.heap.size w w) := Below.refl _ _
  clear h
  go_enter Try.func51, Try.ntmps51
  go_wp2_with fail
  go_ret
  exact ⟨rfl, HB.out⟩
theorem sameNe_any (a1 a2 : Option Addr) (c1 c2 : Nat) (xs ys : List Int) (w : World) (g1 : SR w a1 (zC xs)) (g2 : SR w a2 (zC ys)) (h : xs ≠ ys) (hm : xs.length ≤ 9223372036854775806) :
    Calls Try.prog 51 #[.slice a1 xs.length c1, .slice a2 ys.length c2] w fun e w' => e = .returned (.bool false) ∧ Below w.heap.size w w' := by
  by_cases hl : xs.length = ys.length
  · have := sameB_any a1 a2 c1 c2 xs.length xs ys w g1 g2 rfl hl.symm hm
    rw [decide_eq_false h] at this
    rw [← hl]
    exact this
  · exact sameLen_any a1 a2 c1 c2 _ _ hl w
set_option maxHeartbeats 4000000 in
set_option maxRecDepth 100000 in
theorem sameNx_any (k : Int) (nx ny : List Int) (ac bc : List Bool) (an bn aa ba : Option Addr) (cn dn ca da : Nat) (w : World) (h1 : SR w an (zC nx)) (k1 : SR w bn (zC ny)) (hne : nx ≠ ny) (hm : nx.length ≤ 9223372036854775806) :
    Calls Try.prog 29 #[.agg #[.int .i64 k, .slice an nx.length cn, .slice aa ac.length ca], .agg #[.int .i64 k, .slice bn ny.length dn, .slice ba bc.length da]] w fun e w' => e = .returned (.bool false) ∧ Below w.heap.size w w' := by
  have HSA : Hid (∀ y, Below w.heap.size w y → Calls Try.prog 51 #[.slice an nx.length cn, .slice bn ny.length dn] y fun e w' => e = .returned (.bool false) ∧ Below y.heap.size y w') := fun y hy => sameNe_any an bn cn dn nx ny y (h1.stay hy) (k1.stay hy) hne hm
  have HBW : Hid (∀ O O', Below w.heap.size w ((w.alloc O).alloc O')) := fun O O' => go_on (below_new _ _) (below_new _ _)
  clear h1 k1 hne hm
  go_enter Try.func29, Try.ntmps29
  go_wp2_with (go_at_call 51; refine (HSA.out _ (HBW.out _ _)).mono ?_; rintro e y1 ⟨rfl, hy1⟩; have HY : Hid (Below w.heap.size w y1) := go_on (HBW.out _ _) hy1; clear hy1)
  go_ret
  exact ⟨rfl, HY.out⟩
set_option maxHeartbeats 4000000 in
set_option maxRecDepth 100000 in
theorem sameAc_any (k : Int) (nx : List Int) (ac bc : List Bool) (an bn aa ba : Option Addr) (cn dn ca da : Nat) (w : World) (h1 : SR w an (zC nx)) (k1 : SR w bn (zC nx)) (h2 : SR w aa (bC ac)) (k2 : SR w ba (bC bc)) (hl : bc.length = ac.length) (hne : ac ≠ bc) (hm : nx.length ≤ 9223372036854775806) (hm2 : ac.length ≤ 9223372036854775806) :
    Calls Try.prog 29 #[.agg #[.int .i64 k, .slice an nx.length cn, .slice aa ac.length ca], .agg #[.int .i64 k, .slice bn nx.length dn, .slice ba ac.length da]] w fun e w' => e = .returned (.bool false) ∧ Below w.heap.size w w' := by
  have HSA : Hid (∀ y, Below w.heap.size w y → Calls Try.prog 51 #[.slice an nx.length cn, .slice bn nx.length dn] y fun e w' => e = .returned (.bool true) ∧ Below y.heap.size y w') := fun y hy => same_any an bn cn dn nx y (h1.stay hy) (k1.stay hy) hm
  have H2 : Hid (SR w aa (bC ac)) := h2
  have K2 : Hid (SR w ba (bC bc)) := k2
  have HL : Hid (bc.length = ac.length) := hl
  have HNE : Hid (ac ≠ bc) := hne
  have R1 : RowAt (w.alloc (.cells #[.int .i64 k, .slice an nx.length cn, .slice aa ac.length ca] 25)) w.heap.size #[.int .i64 k, .slice an nx.length cn, .slice aa ac.length ca] := RowAt.last _ _ _
  have R2 := R1.alloc (.cells #[.int .i64 k, .slice bn nx.length dn, .slice ba ac.length da] 25)
  have R3 := RowAt.last (w.alloc (.cells #[.int .i64 k, .slice an nx.length cn, .slice aa ac.length ca] 25)) #[.int .i64 k, .slice bn nx.length dn, .slice ba ac.length da] 25
  rw [World.size_alloc] at R3
  have HR2 : Hid (RowAt ((w.alloc (.cells #[.int .i64 k, .slice an nx.length cn, .slice aa ac.length ca] 25)).alloc (.cells #[.int .i64 k, .slice bn nx.length dn, .slice ba ac.length da] 25)) w.heap.size #[.int .i64 k, .slice an nx.length cn, .slice aa ac.length ca]) := R2
  have HR3 : Hid (RowAt ((w.alloc (.cells #[.int .i64 k, .slice an nx.length cn, .slice aa ac.length ca] 25)).alloc (.cells #[.int .i64 k, .slice bn nx.length dn, .slice ba ac.length da] 25)) (w.heap.size + 1) #[.int .i64 k, .slice bn nx.length dn, .slice ba ac.length da]) := R3
  have HBW : Hid (∀ O O', Below w.heap.size w ((w.alloc O).alloc O')) := fun O O' => go_on (below_new _ _) (below_new _ _)
  clear h1 h2 k1 k2 R1 R2 R3 hl hne
  go_enter Try.func29, Try.ntmps29
  go_wp2_with (first
    | (go_at_call 51; refine (HSA.out _ (HBW.out _ _)).mono ?_; rintro e y1 ⟨rfl, hy1⟩; have HA1 : Hid (RowAt y1 w.heap.size #[.int .i64 k, .slice an nx.length cn, .slice aa ac.length ca]) := RowAt.stay HR2.out hy1; have HA2 : Hid (RowAt y1 (w.heap.size + 1) #[.int .i64 k, .slice bn nx.length dn, .slice ba ac.length da]) := RowAt.stay HR3.out hy1; have cs1 := HA1.out.cell; have cs2 := HA2.out.cell; have HY : Hid (Below w.heap.size w y1) := go_on (HBW.out _ _) hy1; clear hy1))
  clear cs1 cs2
  go_loopw [5] (fun vi wr => ∃ i : Nat, vi = .int .i64 i ∧ i ≤ ac.length ∧ (∀ j, j < i → ac.getD j false = bc.getD j false) ∧ Below y1.heap.size y1 wr) (fun vi _ => ac.length - (intOf vi).toNat)
  case atStart => exact ⟨0, rfl, Nat.zero_le _, fun j hj => absurd hj (by omega), Below.refl _ _⟩
  case round =>
    obtain ⟨i, rfl, hi, hall, hb⟩ := hrel
    have HAll : Hid (∀ j, j < i → ac.getD j false = bc.getD j false) := hall
    clear hall
    have HB : Hid (Below y1.heap.size y1 wr) := hb
    have cs1 := (HA1.out.stay hb).cell
    have cs2 := (HA2.out.stay hb).cell
    by_cases hlt : i < ac.length
    · have hiI : (i : Int) < ac.length := by omega
      have hbw : Below w.heap.size w wr := go_on HY.out hb
      obtain ⟨ga, oa, rfl, _, c1⟩ := (H2.out.stay hbw).bool hlt
      obtain ⟨gb, ob, rfl, _, c2⟩ := (K2.out.stay hbw).bool (i := i) (by rw [HL.out]; exact hlt)
      obtain ⟨x, hx⟩ : ∃ x, ac.getD i false = x := ⟨_, rfl⟩
      obtain ⟨z, hz⟩ : ∃ z, bc.getD i false = z := ⟨_, rfl⟩
      have HXZ : Hid (ac.getD i false = x ∧ bc.getD i false = z) := ⟨hx, hz⟩
      rw [hx] at c1
      rw [hz] at c2
      have S0 : (∀ o, wr.drew.cell? ⟨w.heap.size, o, none⟩ = (#[.int .i64 k, .slice an nx.length cn, .slice (some ⟨ga, oa, none⟩) ac.length ca] : Array Value)[o]?) ∧ (∀ o, wr.drew.cell? ⟨w.heap.size + 1, o, none⟩ = (#[.int .i64 k, .slice bn nx.length dn, .slice (some ⟨gb, ob, none⟩) ac.length da] : Array Value)[o]?) ∧ wr.drew.cell? ⟨ga, oa + i, none⟩ = some (.bool x) ∧ wr.drew.cell? ⟨gb, ob + i, none⟩ = some (.bool z) := ⟨cs1, cs2, c1, c2⟩
      clear hx hz hb hbw
      go_wp2_with fail
      clear cs1 cs2 c1 c2
      go_region_held3 (fun y => (∀ o, y.cell? ⟨w.heap.size, o, none⟩ = (#[.int .i64 k, .slice an nx.length cn, .slice (some ⟨ga, oa, none⟩) ac.length ca] : Array Value)[o]?) ∧ (∀ o, y.cell? ⟨w.heap.size + 1, o, none⟩ = (#[.int .i64 k, .slice bn nx.length dn, .slice (some ⟨gb, ob, none⟩) ac.length da] : Array Value)[o]?) ∧ y.cell? ⟨ga, oa + i, none⟩ = some (.bool x) ∧ y.cell? ⟨gb, ob + i, none⟩ = some (.bool z)) (first | exact S0 | assumption) (fail)
      all_goals (
        clear S0
        cases x <;> cases z
        all_goals go_wp2_with fail
        all_goals first
          | (go_ret; exact ⟨rfl, go_on HY.out HB.out.drew⟩)
          | (go_roundw
             case rel => exact ⟨i + 1, by go_num, by omega, fun j hj => by
               by_cases q : j = i
               · rw [q, HXZ.out.1, HXZ.out.2]
               · exact HAll.out j (by omega), HB.out.drew⟩
             case measure => simp [intOf]; omega))
    · exfalso
      apply HNE.out
      apply List.ext_getElem HL.out.symm
      intro j j1 j2
      have := HAll.out j (by omega)
      simpa [List.getD_eq_getElem?_getD, j1, j2] using this

set_option maxHeartbeats 16000000 in
set_option maxRecDepth 100000 in
theorem walk (va : Value) (A : Aut) (vb : Value) (B : Aut) (w : World) (ha : AR w va A) (hna : NilOk va) (hma : (A.nx.length + 2) * 8 ≤ 140737488355328) (hma2 : A.ac.length ≤ 140737488355328) (hb : AR w vb B) (hnb : NilOk vb) (hmb : (B.nx.length + 2) * 8 ≤ 140737488355328) (hmb2 : B.ac.length ≤ 140737488355328) :
    Calls Try.prog 8 #[va, vb] w fun e w' => e = .returned (.bool true) ∧ Below w.heap.size w w' := by
  obtain ⟨an, cn, aa, ca, ea, _, _⟩ := ha.is
  obtain ⟨bn, dn, ba, da, eb, _, _⟩ := hb.is
  have hA1 : A.nx.length ≤ 9223372036854775806 := by omega
  have hA2 : A.ac.length ≤ 9223372036854775806 := by omega
  have hB1 : B.nx.length ≤ 9223372036854775806 := by omega
  have hB2 : B.ac.length ≤ 9223372036854775806 := by omega
  subst ea eb
  obtain ⟨V, hV⟩ : ∃ V, V = ((w.alloc (.cells #[.int .i64 A.k, .slice an A.nx.length cn, .slice aa A.ac.length ca] 25)).alloc (.cells #[.int .i64 B.k, .slice bn B.nx.length dn, .slice ba B.ac.length da] 25)) := ⟨_, rfl⟩
  have HVE : Hid (V = ((w.alloc (.cells #[.int .i64 A.k, .slice an A.nx.length cn, .slice aa A.ac.length ca] 25)).alloc (.cells #[.int .i64 B.k, .slice bn B.nx.length dn, .slice ba B.ac.length da] 25))) := hV
  have HBV : Hid (Below w.heap.size w V) := by show Below _ _ _; rw [hV]; exact go_on (below_new _ _) (below_new _ _)
  have HRA : Hid (RowAt V w.heap.size #[.int .i64 A.k, .slice an A.nx.length cn, .slice aa A.ac.length ca]) := by show RowAt _ _ _; rw [hV]; exact (RowAt.last _ _ _).alloc _
  have HRB : Hid (RowAt V (w.heap.size + 1) #[.int .i64 B.k, .slice bn B.nx.length dn, .slice ba B.ac.length da]) := by
    show RowAt _ _ _
    rw [hV]
    have := RowAt.last (w.alloc (.cells #[.int .i64 A.k, .slice an A.nx.length cn, .slice aa A.ac.length ca] 25)) #[.int .i64 B.k, .slice bn B.nx.length dn, .slice ba B.ac.length da] 25
    simpa using this
  clear hV
  have HG1 : Hid (∀ b, decide (ckE A B = 0) = b → ∀ y, Below w.heap.size w y → Calls Try.prog 23 #[.agg #[.int .i64 A.k, .slice an A.nx.length cn, .slice aa A.ac.length ca], .agg #[.int .i64 B.k, .slice bn B.nx.length dn, .slice ba B.ac.length da]] y fun e w' => e = .returned (.bool b) ∧ Below y.heap.size y w') := fun b hbb y hy => good_any _ _ A B y (ha.stay hy) (hb.stay hy) hA1 hA2 hB1 hB2 b hbb
  by_cases h0 : ckE A B = 0
  case neg =>
    have HG : Hid (∀ y, Below w.heap.size w y → Calls Try.prog 23 #[.agg #[.int .i64 A.k, .slice an A.nx.length cn, .slice aa A.ac.length ca], .agg #[.int .i64 B.k, .slice bn B.nx.length dn, .slice ba B.ac.length da]] y fun e w' => e = .returned (.bool false) ∧ Below y.heap.size y w') := HG1.out false (decide_eq_false h0)
    clear ha hb hna hnb hma hma2 hmb hmb2 HG1
    go_enter Try.func8, Try.ntmps8
    go_wp2_with fail
    rw [← HVE.out]
    refine (HG.out V HBV.out).mono ?_
    rintro e w1 ⟨rfl, hb1⟩
    have HB1 : Hid (Below w.heap.size w w1) := go_on HBV.out hb1
    clear hb1
    go_wp2_with (first
      | (go_at_call 16; refine (live12_any _).mono ?_; rintro e y6 ⟨rfl, hy6⟩; have HY6 : Hid (Below w.heap.size w y6) := go_on HB1.out hy6; clear hy6))
    go_ret
    exact ⟨rfl, HY6.out⟩
  case pos =>
  have HGa : Hid (∀ y, Below w.heap.size w y → Calls Try.prog 23 #[.agg #[.int .i64 A.k, .slice an A.nx.length cn, .slice aa A.ac.length ca], .agg #[.int .i64 B.k, .slice bn B.nx.length dn, .slice ba B.ac.length da]] y fun e w' => e = .returned (.bool true) ∧ Below y.heap.size y w') := HG1.out true (decide_eq_true h0)
  obtain ⟨G, H, hk⟩ := ck_good h0
  obtain ⟨ga, ka, _⟩ := good_mn G
  obtain ⟨gb, kb, _⟩ := good_mn H
  have hq := eq_mn G H hk
  have h4 : ckE A (mnA A) = 0 := ckE_ok G ga ka.symm
  have ho := own_mn G
  have lA := good_len ga
  have lB := good_len gb
  have hkk : (mnA A).k = (mnA B).k := by rw [ka, kb]; exact hk
  have hGl := ga.len
  have hHl := gb.len
  have hk1 := ga.k1
  obtain ⟨s, hs⟩ : ∃ x, eqB A B (sx A B) = x := ⟨_, rfl⟩
  rw [hs] at hq
  obtain ⟨M, hMe⟩ : ∃ M, mnA A = M := ⟨_, rfl⟩
  obtain ⟨N, hNe⟩ : ∃ N, mnA B = N := ⟨_, rfl⟩
  obtain ⟨T1, hT1⟩ : ∃ T, mnT A = T := ⟨_, rfl⟩
  obtain ⟨T2, hT2⟩ : ∃ T, mnT B = T := ⟨_, rfl⟩
  rw [hMe] at hq h4 ho lA hkk hGl hk1
  rw [hNe] at hq lB hkk hHl
  have C1 : Hid (∀ y, Below w.heap.size w y → Calls Try.prog 10 #[.agg #[.int .i64 A.k, .slice an A.nx.length cn, .slice aa A.ac.length ca], .agg #[.int .i64 B.k, .slice bn B.nx.length dn, .slice ba B.ac.length da]] y fun e w' => e = .returned (.tuple #[.bool s, .int .i64 0]) ∧ Below y.heap.size y w') := fun y hy => by
    have := eeq_any _ _ A B y (ha.stay hy) (hb.stay hy) hA1 hA2 hB1 hB2
    rwa [hs, h0] at this
  have C2 : Hid (∀ y, Below w.heap.size w y → Calls Try.prog 28 #[.agg #[.int .i64 A.k, .slice an A.nx.length cn, .slice aa A.ac.length ca]] y (MQ M T1 0 y)) := fun y hy => by
    have := minimal_any _ A y (ha.stay hy) hA1 hA2
    rwa [hMe, hT1, chkA_ok G] at this
  have C3 : Hid (∀ y, Below w.heap.size w y → Calls Try.prog 28 #[.agg #[.int .i64 B.k, .slice bn B.nx.length dn, .slice ba B.ac.length da]] y (MQ N T2 0 y)) := fun y hy => by
    have := minimal_any _ B y (hb.stay hy) hB1 hB2
    rwa [hNe, hT2, chkA_ok H] at this
  have C4 : Hid (∀ y x, Below w.heap.size w y → AR y x M → Calls Try.prog 10 #[.agg #[.int .i64 A.k, .slice an A.nx.length cn, .slice aa A.ac.length ca], x] y fun e w' => e = .returned (.tuple #[.bool true, .int .i64 0]) ∧ Below y.heap.size y w') := fun y x hy hx => by
    have := eeq_any _ _ A M y (ha.stay hy) hx hA1 hA2 lA.1 lA.2
    rwa [ho, h4] at this
  have C5 : Hid (∀ y x z, AR y x M → AR y z N → Calls Try.prog 29 #[x, z] y fun e w' => e = .returned (.bool s) ∧ Below y.heap.size y w') := fun y x z hx hz => by
    by_cases hMN : M = N
    · subst hMN
      have hst : s = true := hq.2 rfl
      rw [hst]
      exact sameAuto_any x z M y hx hz lA.1 lA.2
    · have hst : s = false := by
        cases s with
        | false => rfl
        | true => exact absurd (hq.1 rfl) hMN
      rw [hst]
      obtain ⟨xn, yn, xa, ya, rfl, q1, q2⟩ := hx.is
      obtain ⟨zn, un, za, ua, rfl, q3, q4⟩ := hz.is
      obtain ⟨k, nx, ac⟩ := M
      obtain ⟨k', ny, bc⟩ := N
      simp only at hkk hGl hHl hk1 lA lB q1 q2 q3 q4 ⊢
      subst hkk
      by_cases hn : nx = ny
      · subst hn
        have hlen : bc.length = ac.length := by
          have e : (bc.length : Int) * k = ac.length * k := by rw [← hHl, hGl]
          have := Int.eq_of_mul_eq_mul_right (by omega) e
          omega
        have hac : ac ≠ bc := fun q => hMN (by rw [q])
        rw [hlen]
        exact sameAc_any k nx ac bc xn zn xa za yn un ya ua y q1 q3 q2 q4 hlen hac lA.1 lA.2
      · exact sameNx_any k nx ny ac bc xn zn xa za yn un ya ua y q1 q3 hn lA.1
  clear ha hb hna hnb hma hma2 hmb hmb2 HG1 hq h0 G H hk ga gb ka kb h4 ho lA lB hkk hGl hHl hk1 hs hMe hNe hT1 hT2
  go_enter Try.func8, Try.ntmps8
  go_wp2_with fail
  rw [← HVE.out]
  refine (HGa.out V HBV.out).mono ?_
  rintro e w0 ⟨rfl, hb0⟩
  have HV0 : Hid (Below V.heap.size V w0) := hb0
  have ca0 := (HRA.out.stay hb0).cell
  have cb0 := (HRB.out.stay hb0).cell
  clear hb0
  go_wp2_with fail
  refine (C1.out w0 (go_on HBV.out HV0.out)).mono ?_
  rintro e w1 ⟨rfl, hb1⟩
  have HV1 : Hid (Below V.heap.size V w1) := go_on HV0.out hb1
  have ca1 := (HRA.out.stay HV1.out).cell
  have cb1 := (HRB.out.stay HV1.out).cell
  clear hb1 ca0 cb0
  go_wp2_with fail
  refine (C2.out w1 (go_on HBV.out HV1.out)).mono ?_
  rintro e w5 ⟨v5, t5, rfl, ha5, _, hb5⟩
  obtain ⟨n5, c5, a5, d5, rfl, o5, p5⟩ := ha5
  obtain ⟨U5, hU5⟩ : ∃ U5, U5 = w5.alloc (.cells #[.int .i64 M.k, .slice n5 M.nx.length c5, .slice a5 M.ac.length d5] 25) := ⟨_, rfl⟩
  have HUE5 : Hid (U5 = w5.alloc (.cells #[.int .i64 M.k, .slice n5 M.nx.length c5, .slice a5 M.ac.length d5] 25)) := hU5
  have HN5 : Hid (Below w5.heap.size w5 U5) := by show Below _ _ _; rw [hU5]; exact below_new _ _
  have HV5 : Hid (Below V.heap.size V U5) := go_on (go_on HV1.out hb5) HN5.out
  have HR5 : Hid (RowAt U5 w5.heap.size #[.int .i64 M.k, .slice n5 M.nx.length c5, .slice a5 M.ac.length d5]) := by show RowAt _ _ _; rw [hU5]; exact RowAt.last _ _ _
  have HX5 : Hid (∀ y, Below U5.heap.size U5 y → AR y (.agg #[.int .i64 M.k, .slice n5 M.nx.length c5, .slice a5 M.ac.length d5]) M) := fun y hy => ⟨_, _, _, _, rfl, ((own_sr o5).stay HN5.out).stay hy, ((own_sr p5).stay HN5.out).stay hy⟩
  have cx : ∀ o, (w5.alloc (.cells #[.int .i64 M.k, .slice n5 M.nx.length c5, .slice a5 M.ac.length d5] 25)).cell? ⟨w.heap.size + 1, o, none⟩ = (#[.int .i64 B.k, .slice bn B.nx.length dn, .slice ba B.ac.length da] : Array Value)[o]? := by have := (HRB.out.stay HV5.out).cell; rw [hU5] at this; exact this
  clear hb5 o5 p5 hU5 ca1 cb1
  go_wp2_with fail
  rw [← HUE5.out]
  clear cx
  refine (C3.out _ (go_on HBV.out HV5.out)).mono ?_
  rintro e w6 ⟨v6, t6, rfl, ha6, _, hb6⟩
  obtain ⟨n6, c6, a6, d6, rfl, o6, p6⟩ := ha6
  obtain ⟨U6, hU6⟩ : ∃ U6, U6 = w6.alloc (.cells #[.int .i64 N.k, .slice n6 N.nx.length c6, .slice a6 N.ac.length d6] 25) := ⟨_, rfl⟩
  have HUE6 : Hid (U6 = w6.alloc (.cells #[.int .i64 N.k, .slice n6 N.nx.length c6, .slice a6 N.ac.length d6] 25)) := hU6
  have HN6 : Hid (Below w6.heap.size w6 U6) := by show Below _ _ _; rw [hU6]; exact below_new _ _
  have HU56 : Hid (Below U5.heap.size U5 U6) := go_on hb6 HN6.out
  have HV6 : Hid (Below V.heap.size V U6) := go_on HV5.out HU56.out
  have HR6 : Hid (RowAt U6 w6.heap.size #[.int .i64 N.k, .slice n6 N.nx.length c6, .slice a6 N.ac.length d6]) := by show RowAt _ _ _; rw [hU6]; exact RowAt.last _ _ _
  have HX6 : Hid (∀ y, Below U6.heap.size U6 y → AR y (.agg #[.int .i64 N.k, .slice n6 N.nx.length c6, .slice a6 N.ac.length d6]) N) := fun y hy => ⟨_, _, _, _, rfl, ((own_sr o6).stay HN6.out).stay hy, ((own_sr p6).stay HN6.out).stay hy⟩
  have cx : ∀ o, (w6.alloc (.cells #[.int .i64 N.k, .slice n6 N.nx.length c6, .slice a6 N.ac.length d6] 25)).cell? ⟨w.heap.size, o, none⟩ = (#[.int .i64 A.k, .slice an A.nx.length cn, .slice aa A.ac.length ca] : Array Value)[o]? := by have := (HRA.out.stay HV6.out).cell; rw [hU6] at this; exact this
  have cy : ∀ o, (w6.alloc (.cells #[.int .i64 N.k, .slice n6 N.nx.length c6, .slice a6 N.ac.length d6] 25)).cell? ⟨w5.heap.size, o, none⟩ = (#[.int .i64 M.k, .slice n5 M.nx.length c5, .slice a5 M.ac.length d5] : Array Value)[o]? := by have := (HR5.out.stay HU56.out).cell; rw [hU6] at this; exact this
  clear hb6 o6 p6 hU6
  go_wp2_with fail
  rw [← HUE6.out]
  clear cx cy
  refine (C4.out _ _ (go_on HBV.out HV6.out) (HX5.out _ HU56.out)).mono ?_
  rintro e w7 ⟨rfl, hb7⟩
  have HU7 : Hid (Below U6.heap.size U6 w7) := hb7
  have HV7 : Hid (Below V.heap.size V w7) := go_on HV6.out hb7
  have cx := (HR5.out.stay (go_on HU56.out hb7)).cell
  have cy := (HR6.out.stay hb7).cell
  clear hb7
  go_wp2_with (first
    | (go_at_call 14; refine (num12_any _ _).mono ?_; rintro e yn ⟨rfl, hyn⟩; subst yn))
  clear cx cy
  refine (C5.out _ _ _ (HX5.out _ (go_on HU56.out HU7.out)) (HX6.out _ HU7.out)).mono ?_
  rintro e wz ⟨rfl, hbz⟩
  have HBZ : Hid (Below w.heap.size w wz) := go_on (go_on HBV.out HV7.out) hbz
  clear hbz
  have hss : (s == s) = true := by simp
  go_wp2_with (first
    | (go_at_call 14; refine (num12_any _ _).mono ?_; rintro e yn ⟨rfl, hyn⟩; subst yn)
    | (go_at_call 16; refine (live12_any _).mono ?_; rintro e y6 ⟨rfl, hy6⟩; have HY6 : Hid (Below w.heap.size w y6) := go_on HBZ.out hy6; clear hy6))
  go_ret
  exact ⟨rfl, HY6.out⟩

/-! ### The row's step -/
theorem own : ownKnob Try.prog.godebug = none := by kernel_rfl
set_option maxRecDepth 100000 in
theorem lifted (os : Os) (started : os.Started) (H : Type) (enc : TypeId × Value → H) :
    ReturnsInHanded {} Try.checked os 8 .any (Rows.equalMinimalSpec.pre6 enc Try.prog Try.f8 Rows.equalMinimalRow.domain false) (Rows.equalMinimalSpec.post enc Try.prog Try.f8 false true false false) := by
  refine returnsInHanded_of_change_sized (C := Try.checked) own started (by kernel_rfl) Try.func8
    (ChangeSpec.witness6 (enc := enc) (C := Try.checked) false ⟨#[], #[.agg #[.int .i64 0, .slice none 0 0, .slice none 0 0], .agg #[.int .i64 0, .slice none 0 0, .slice none 0 0]], []⟩ 8 (by kernel_rfl) (by kernel_rfl) (by kernel_rfl) (by kernel_rfl)) ?_
  intro W base args ds gs before hval0 hW hcnd hsz0 _
  have hval : ∀ (j : Nat) t v, Try.f8.params[j]? = some t → args[j]? = some v → Value.okWide Try.prog W .any base t v := hval0
  clear hval0
  have hsz : (DataW.weightsEach Try.prog (Try.f8.params.toList ++ Rows.equalMinimalSpec.plain.varTypes Try.prog) (ds ++ gs)).all (· ≤ reachBytes) = true := hsz0
  clear hsz0
  have hW' := hW
  obtain ⟨p, q, hA0, hV, rfl, hfz, hnd⟩ := hW
  have hA : DataW.TrodAll enc Try.prog W 0 (fun _ => true) true Try.f8.params.toList args.toList ds p := hA0
  rw [Try.params8] at hA hval hsz
  obtain ⟨v0, vs0, d0, ds0, p0, q0, hargs, rfl, rfl, h0, r0⟩ := trodAll_cons hA
  obtain ⟨v1, vs1, d1, ds1, p1, q1, rfl, rfl, rfl, h1, r1⟩ := trodAll_cons r0
  obtain ⟨rfl, rfl, rfl⟩ := trodAll_nil r1
  obtain rfl : args = #[v0, v1] := by cases args; simp_all
  obtain ⟨rfl, rfl⟩ := trodVars_none hV
  obtain ⟨a0, x0, n0, w0, dk0, dn0, da0, e0, y0, z0⟩ := open_auto (hval 0 25 v0 rfl rfl) h0
  have b0 := auto_bounds hsz (j := 0) rfl (by rw [e0]; rfl) y0 z0
  have g0 : ∀ x ∈ p0, x.block < W.heap.size := fun x hx => hW'.lt x (by simp [hx])
  obtain ⟨a1, x1, n1, w1, dk1, dn1, da1, e1, y1, z1⟩ := open_auto (hval 1 25 v1 rfl rfl) h1
  have b1 := auto_bounds hsz (j := 1) rfl (by rw [e1]; rfl) y1 z1
  have g1 : ∀ x ∈ p1, x.block < W.heap.size := fun x hx => hW'.lt x (by simp [hx])
  clear hA0
  refine (walk v0 a0 v1 a1 W x0 n0 b0.1 b0.2 x1 n1 b1.1 b1.2).mono fun e W' ⟨he, bel⟩ => ?_
  subst he
  exact ⟨_, rfl, _, _, _, [], _, [], hW', trodAll_mk1 (shut_bool Try.underlying4 _), (trodAll_cons_mk (Below.trod Try.laidOut (by kernel_rfl) (of_decide_eq_true (by kernel_rfl)) h0 bel g0) (trodAll_cons_mk (Below.trod Try.laidOut (by kernel_rfl) (of_decide_eq_true (by kernel_rfl)) h1 bel g1) trodAll_mk0)), rfl, bel.frame _, fun h => by cases h⟩

theorem over : Rows.equalMinimalRow.holds Try.pinned (OpenSpec.ofChange Rows.equalMinimalSpec) :=
  OpenClaim.holds_of_wide 8 Try.f8 rfl rfl rfl rfl rfl rfl rfl ⟨rfl, rfl, rfl, rfl, rfl⟩ rfl rfl rfl rfl rfl (by kernel_rfl) Try.func8 (by kernel_rfl)
    (of_decide_eq_true (by kernel_rfl)) (by unfold Func.isWrapper; first | (rw [if_pos (by decide +kernel)]; kernel_rfl) | (rw [if_neg (by decide +kernel)]; exact ⟨rfl, rfl⟩))
    (fun os started H enc _ => lifted os started H enc)

end Go.Proofs.Ytggheiblgghpkaa.equalMinimal
namespace Go.Proofs.Ytggheiblgghpkaa
/-- The given statement. -/
theorem equalMinimal_holds : Rows.EqualMinimalSaid := equalMinimal.over
end Go.Proofs.Ytggheiblgghpkaa
