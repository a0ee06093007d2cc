/- The rules not and star. -/
import Derived.Test.YtdmjcfecahcdnaaDoorXg
namespace Go.Proofs.YtdmjcfecahcdnaaDoor
open Go Go.RowKit
set_option linter.unusedVariables false

set_option maxHeartbeats 4000000 in
set_option maxRecDepth 100000 in
theorem not_any {base : Nat} {w : World} {B : Nat} {F : Fb} {pre : List Tr} {x : Tr} (h : FT base w B (pre ++ [x]) F) (ho : x.ok) (hN : (flatL (pre ++ [x])).length < 100000) :
    Calls Tryd.prog 71 #[.pointer (some ⟨B, 0, none⟩)] w fun en w' => en = .returned (.tuple #[]) ∧ FTE base w B F (pre ++ [RN x]) w' := by
  obtain ⟨p, e, hx, he, hp⟩ := at_last pre x
  have HS : Hid (FT base w B (pre ++ [x]) F) := h
  have HT : Hid (At (flatL (pre ++ [x])) (szL (pre ++ [x])) p e x) := hx
  have HO : Hid x.ok := ho
  have HE : Hid (e = (flatL (pre ++ [x])).length) := he
  have HN : Hid ((flatL (pre ++ [x])).length < 100000) := hN
  have hlt := h.lt
  have hle := hx.le
  obtain ⟨b0, _⟩ := h.cells
  rw [← he] at b0
  have he2 : e < 100001 := by omega
  have he1 : 1 ≤ e := by omega
  clear h hx ho he hp hle hN
  go_enter Tryd.func71, Tryd.ntmps71
  go_wp2_with fail
  refine (endingT HS.out HT.out).mono ?_
  rintro en w1 ⟨rfl, hb1⟩
  have HB1 : Hid (Below w.heap.size w (w1.alloc (.cells #[.int .i64 (p : Int), .int .i64 (e : Int)] 70))) := hb1.alloc hb1.size _
  have HX1 : Hid (Bx (w1.alloc (.cells #[.int .i64 (p : Int), .int .i64 (e : Int)] 70)) w1.heap.size (.int .i64 (p : Int)) (.int .i64 (e : Int))) := Bx.new w1 _ _
  clear hb1
  go_wp2_with fail
  obtain ⟨b, hb⟩ : ∃ b, w1.heap.size = b := ⟨_, rfl⟩
  generalize w1.alloc (.cells #[.int .i64 (p : Int), .int .i64 (e : Int)] 70) = wA at HB1 HX1 ⊢
  rw [hb] at HX1 ⊢
  clear hb
  refine (rootT (HS.out.stay HB1.out) HT.out).mono ?_
  rintro en w2 ⟨rfl, hb2⟩
  have HB2 : Hid (Below w.heap.size w w2) := go_on HB1.out hb2
  have HX2 : Hid (Bx w2 b (.int .i64 (p : Int)) (.int .i64 (e : Int))) := HX1.out.stay hb2
  clear hb2 HX1 HB1
  obtain ⟨c0, c1, cf⟩ := HX2.out.cells
  by_cases h9 : x.root.1 = 9
  · obtain ⟨n, a, et⟩ : ∃ n a, x = .one n a := by
      cases x with
      | zero n => have := HO.out.2; have h9 : n.1 = 9 := h9; rw [h9] at this; simp [arity] at this
      | two n a c => have := HO.out.2.1; have h9 : n.1 = 9 := h9; rw [h9] at this; simp [arity] at this
      | one n a => exact ⟨n, a, rfl⟩
    subst et
    have hn9 : n.1 = 9 := h9
    have HR : Hid (RN (.one n a) = a) := by show _ = _; rw [RN, if_pos hn9]
    rw [h9]
    obtain ⟨r, hr⟩ : ∃ r, r = e - 1 := ⟨_, rfl⟩
    have HRE : Hid (r = e - 1) := hr
    have hwr : IntKind.i64.wrap ((e : Int) - 1) = (r : Int) := by rw [IntKind.wrap_i64]; omega
    have hwr2 : (e : Int) - 1 = (r : Int) := by omega
    clear h9 hn9 hr
    go_wp2_with fail
    refine (drop_root (HS.out.stay HB2.out) HE.out HRE.out).mono ?_
    rintro en w3 ⟨rfl, hf3⟩
    have HF3 : Hid (FE base w2 B F (flatL (pre ++ [a])) (szL (pre ++ [a])) w3) := hf3
    clear hf3
    go_wp2_with fail
    refine bodyPost_ret (results_none rfl _ _ _) rfl ?_
    exact ⟨rfl, by rw [HR.out]; exact FE.after HB2.out HF3.out⟩
  · have hb9 : (x.root.1 == 9) = false := by simpa using h9
    have HR : Hid (RN x = .one (9, 0) x) := by
      show _ = _
      cases x with
      | zero n => rfl
      | two n a c => rfl
      | one n a => rw [RN, if_neg (show ¬ n.1 = 9 from h9)]
    clear h9
    go_wp2_with fail
    refine (put1 (HS.out.stay HB2.out) (9, 0) HN.out).mono ?_
    rintro en w3 ⟨rfl, hf3⟩
    have HF3 : Hid (FE base w2 B F (flatL (pre ++ [.one (9, 0) x])) (szL (pre ++ [.one (9, 0) x])) w3) := hf3
    clear hf3
    go_wp2_with fail
    refine bodyPost_end (results_none rfl _ _ _) rfl ?_
    exact ⟨rfl, by rw [HR.out]; exact FE.after HB2.out HF3.out⟩

theorem leaf_of {x : Tr} (ho : x.ok) : (x.root.1 = 1 → x = tNone) ∧ (x.root.1 = 2 → x = tEmpty) ∧ (x.root.1 = 4 → x = tAny) := by
  have key : ∀ k : Int, (k = 1 ∨ k = 2 ∨ k = 4) → x.root.1 = k → x = .zero (k, 0) := by
    intro k hk hr
    cases x with
    | zero n =>
      have hr : n.1 = k := hr
      have hg := ho.1
      obtain ⟨a, s⟩ := n
      simp only at hr
      subst hr
      simp only [good] at hg
      rw [if_neg (by omega)] at hg
      simp at hg
      rw [hg.2.2]
    | one n a =>
      have hr : n.1 = k := hr
      have := ho.2.1
      rw [hr] at this
      rcases hk with rfl | rfl | rfl <;> simp [arity] at this
    | two n a b =>
      have hr : n.1 = k := hr
      have := ho.2.1
      rw [hr] at this
      rcases hk with rfl | rfl | rfl <;> simp [arity] at this
  exact ⟨fun h => key 1 (by omega) h, fun h => key 2 (by omega) h, fun h => key 4 (by omega) h⟩

set_option maxHeartbeats 4000000 in
set_option maxRecDepth 100000 in
theorem star_any {base : Nat} {w : World} {B : Nat} {F : Fb} {pre : List Tr} {x : Tr} (h : FT base w B (pre ++ [x]) F) (ho : x.ok) (hN : (flatL (pre ++ [x])).length < 90000) :
    Calls Tryd.prog 70 #[.pointer (some ⟨B, 0, none⟩)] w fun en w' => en = .returned (.tuple #[]) ∧ FTE base w B F (pre ++ [RS x]) w' := by
  obtain ⟨p, e, hx, he, hp⟩ := at_last pre x
  have HS : Hid (FT base w B (pre ++ [x]) F) := h
  have HT : Hid (At (flatL (pre ++ [x])) (szL (pre ++ [x])) p e x) := hx
  have HO : Hid x.ok := ho
  have HE : Hid (e = (flatL (pre ++ [x])).length) := he
  have HP : Hid (p = (flatL pre).length) := hp
  have HN : Hid ((flatL (pre ++ [x])).length < 90000) := hN
  have hpl : (flatL pre).length ≤ (flatL (pre ++ [x])).length := by rw [flatL_append, List.length_append]; omega
  have HNP : Hid ((flatL pre).length < 90000) := by show _ < _; omega
  have hlt := h.lt
  have hle := hx.le
  obtain ⟨b0, _⟩ := h.cells
  rw [← he] at b0
  have he2 : e < 100001 := by omega
  have he1 : 1 ≤ e := by omega
  clear h hx ho he hp hle hN hpl
  go_enter Tryd.func70, Tryd.ntmps70
  go_wp2_with fail
  refine (endingT HS.out HT.out).mono ?_
  rintro en w1 ⟨rfl, hb1⟩
  have HB1 : Hid (Below w.heap.size w (w1.alloc (.cells #[.int .i64 (p : Int), .int .i64 (e : Int)] 70))) := hb1.alloc hb1.size _
  have HX1 : Hid (Bx (w1.alloc (.cells #[.int .i64 (p : Int), .int .i64 (e : Int)] 70)) w1.heap.size (.int .i64 (p : Int)) (.int .i64 (e : Int))) := Bx.new w1 _ _
  clear hb1
  go_wp2_with fail
  obtain ⟨b, hb⟩ : ∃ b, w1.heap.size = b := ⟨_, rfl⟩
  generalize w1.alloc (.cells #[.int .i64 (p : Int), .int .i64 (e : Int)] 70) = wA at HB1 HX1 ⊢
  rw [hb] at HX1 ⊢
  clear hb
  refine (rootT (HS.out.stay HB1.out) HT.out).mono ?_
  rintro en w2 ⟨rfl, hb2⟩
  have HB2 : Hid (Below w.heap.size w w2) := go_on HB1.out hb2
  have HX2 : Hid (Bx w2 b (.int .i64 (p : Int)) (.int .i64 (e : Int))) := HX1.out.stay hb2
  clear hb2 HX1 HB1
  obtain ⟨c0, c1, cf⟩ := HX2.out.cells
  have HK : Hid ((x.root.1 = 1 → x = tNone) ∧ (x.root.1 = 2 → x = tEmpty) ∧ (x.root.1 = 4 → x = tAny)) := leaf_of HO.out
  have HR0 : Hid (RS x = if x = tNone ∨ x = tEmpty then tEmpty else if x = tAny then tAll else if x.root.1 = 8 ∨ x = tAll then x else .one (8, 0) x) := rfl
  have HRT : Hid (x = tNone → x.root.1 = 1) := fun e => by rw [e]; rfl
  have HRT2 : Hid (x = tEmpty → x.root.1 = 2) := fun e => by rw [e]; rfl
  have HRT4 : Hid (x = tAny → x.root.1 = 4) := fun e => by rw [e]; rfl
  obtain ⟨k, hk⟩ : ∃ k, x.root.1 = k := ⟨_, rfl⟩
  rw [hk] at HK HR0 HRT HRT2 HRT4 ⊢
  clear hk
  by_cases h12 : k = 1 ∨ k = 2
  · have HR : Hid (RS x = tEmpty) := by
      show _ = _
      rw [HR0.out, if_pos]
      rcases h12 with h | h
      · exact .inl (HK.out.1 h)
      · exact .inr (HK.out.2.1 h)
    rcases h12 with rfl | rfl
    all_goals
      go_wp2_with fail
      refine (drop_y (HS.out.stay HB2.out) HP.out HE.out).mono ?_
      rintro en w3 ⟨rfl, F3, hs3, hg3⟩
      have HS3 : Hid (FT base w3 B pre F3) := hs3
      have HG3 : Hid (FG w w3 B F F3) := (FG.of HB2.out).trans hg3
      clear hs3 hg3
      go_wp2_with fail
      refine (put0 HS3.out (2, 0) (by have := HNP.out; omega)).mono ?_
      rintro en w4 ⟨rfl, hf4⟩
      have HF4 : Hid (FE base w3 B F3 (flatL (pre ++ [.zero (2, 0)])) (szL (pre ++ [.zero (2, 0)])) w4) := hf4
      clear hf4
      go_wp2_with fail
      refine bodyPost_end (results_none rfl _ _ _) rfl ?_
      exact ⟨rfl, by rw [HR.out]; exact FE.chain HG3.out HF4.out⟩
  have h1b : (k == 1) = false := by rw [beq_eq_false_iff_ne]; omega
  have h2b : (k == 2) = false := by rw [beq_eq_false_iff_ne]; omega
  have HN12 : Hid (¬ (x = tNone ∨ x = tEmpty)) := fun h => h12 (h.imp HRT.out HRT2.out)
  clear h12
  by_cases h4 : k = 4
  · subst h4
    have HR : Hid (RS x = tAll) := by
      show _ = _
      rw [HR0.out, if_neg HN12.out, if_pos (HK.out.2.2 rfl)]
    go_wp2_with fail
    refine (drop_y (HS.out.stay HB2.out) HP.out HE.out).mono ?_
    rintro en w3 ⟨rfl, F3, hs3, hg3⟩
    have HS3 : Hid (FT base w3 B pre F3) := hs3
    have HG3 : Hid (FG w w3 B F F3) := (FG.of HB2.out).trans hg3
    clear hs3 hg3
    go_wp2_with fail
    refine (put0 HS3.out (1, 0) (by have := HNP.out; omega)).mono ?_
    rintro en w4 ⟨rfl, F4, hs4, hg4⟩
    have HS4 : Hid (FT base w4 B (pre ++ [.zero (1, 0)]) F4) := hs4
    have HG4 : Hid (FG w w4 B F F4) := HG3.out.trans hg4
    clear hs4 hg4
    go_wp2_with fail
    refine (put1 HS4.out (9, 0) (by have := HNP.out; rw [flatL_append, List.length_append]; simp [flatL, Tr.flat] at *; omega)).mono ?_
    rintro en w5 ⟨rfl, hf5⟩
    have HF5 : Hid (FE base w4 B F4 (flatL (pre ++ [.one (9, 0) (.zero (1, 0))])) (szL (pre ++ [.one (9, 0) (.zero (1, 0))])) w5) := hf5
    clear hf5
    go_wp2_with fail
    refine bodyPost_end (results_none rfl _ _ _) rfl ?_
    exact ⟨rfl, by rw [HR.out]; exact FE.chain HG4.out HF5.out⟩
  have h4b : (k == 4) = false := by rw [beq_eq_false_iff_ne]; omega
  have HN4 : Hid (¬ x = tAny) := fun h => h4 (HRT4.out h)
  clear h4
  by_cases h8 : k = 8
  · subst h8
    have HR : Hid (RS x = x) := by
      show _ = _
      rw [HR0.out, if_neg HN12.out, if_neg HN4.out, if_pos (.inl rfl)]
    go_wp2_with fail
    refine bodyPost_end (results_none rfl _ _ _) rfl ?_
    exact ⟨rfl, by rw [HR.out]; exact ⟨F, HS.out.stay HB2.out, FG.of HB2.out⟩⟩
  have h8b : (k == 8) = false := by rw [beq_eq_false_iff_ne]; omega
  go_wp2_with fail
  refine (isAllT (HS.out.stay HB2.out) HT.out HO.out).mono ?_
  rintro en w3 ⟨rfl, hb3⟩
  have HB3 : Hid (Below w.heap.size w w3) := go_on HB2.out hb3
  clear hb3
  by_cases ha : x = tAll
  · have HR : Hid (RS x = x) := by
      show _ = _
      rw [HR0.out, if_neg HN12.out, if_neg HN4.out, if_pos (.inr ha)]
    rw [decide_eq_true ha]
    clear ha
    go_wp2_with fail
    refine bodyPost_end (results_none rfl _ _ _) rfl ?_
    exact ⟨rfl, by rw [HR.out]; exact ⟨F, HS.out.stay HB3.out, FG.of HB3.out⟩⟩
  · have HR : Hid (RS x = .one (8, 0) x) := by
      show _ = _
      rw [HR0.out, if_neg HN12.out, if_neg HN4.out, if_neg (by simp [h8, ha])]
    rw [decide_eq_false ha]
    clear ha
    go_wp2_with fail
    refine (put1 (HS.out.stay HB3.out) (8, 0) (by have := HN.out; omega)).mono ?_
    rintro en w4 ⟨rfl, hf4⟩
    have HF4 : Hid (FE base w3 B F (flatL (pre ++ [.one (8, 0) x])) (szL (pre ++ [.one (8, 0) x])) w4) := hf4
    clear hf4
    go_wp2_with fail
    refine bodyPost_end (results_none rfl _ _ _) rfl ?_
    exact ⟨rfl, by rw [HR.out]; exact FE.after HB3.out HF4.out⟩
end Go.Proofs.YtdmjcfecahcdnaaDoor
