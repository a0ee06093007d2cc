/- The program's forms as a stack of trees: drop, isAll, beginsWithAll; the rules star and not. -/
import Derived.Test.YtdmjcfecahcdnaaDoorXf
namespace Go.Proofs.YtdmjcfecahcdnaaDoor
open Go Go.RowKit
set_option linter.unusedVariables false

theorem take_at {α : Type} {A X Y : List α} : (A ++ X ++ Y).take A.length = A := by rw [List.append_assoc, List.take_left]
theorem drop_at {α : Type} {A X Y : List α} : (A ++ X ++ Y).drop (A.length + X.length) = Y := by rw [← List.length_append, List.drop_left]
theorem flatL_one (x : Tr) : flatL [x] = x.flat := by simp [flatL]
theorem szL_one (x : Tr) : szL [x] = x.sz := by simp [szL]
/-- The last form is taken out; the one ahead of it is taken out. -/
theorem drop_y {base : Nat} {w : World} {B : Nat} {F : Fb} {pre : List Tr} {y : Tr} (h : FS base w B (flatL (pre ++ [y])) (szL (pre ++ [y])) F) {q e : Nat} (hq : q = (flatL pre).length) (he : e = (flatL (pre ++ [y])).length) :
    Calls Tryd.prog 78 #[.pointer (some ⟨B, 0, none⟩), .agg #[.int .i64 (q : Int), .int .i64 (e : Int)]] w fun en w' => en = .returned (.tuple #[]) ∧ FE base w B F (flatL pre) (szL pre) w' := by
  have hz := szL_len pre
  have hz2 := szL_len (pre ++ [y])
  have e1 : e = q + y.flat.length := by rw [he, flatL_append, flatL_one, List.length_append, hq]
  have := drop_any base w B _ _ F h q e (by omega) (by omega)
  rw [show (flatL (pre ++ [y])).take q ++ (flatL (pre ++ [y])).drop e = flatL pre by rw [he, List.drop_length, flatL_append, hq, List.take_left, List.append_nil],
    show (szL (pre ++ [y])).take q ++ (szL (pre ++ [y])).drop e = szL pre by rw [he, ← hz2, List.drop_length, szL_append, hq, ← hz, List.take_left, List.append_nil]] at this
  exact this
theorem drop_x {base : Nat} {w : World} {B : Nat} {F : Fb} {pre : List Tr} {x y : Tr} (h : FS base w B (flatL (pre ++ [x, y])) (szL (pre ++ [x, y])) F) {p q : Nat} (hp : p = (flatL pre).length) (hq : q = p + x.flat.length) :
    Calls Tryd.prog 78 #[.pointer (some ⟨B, 0, none⟩), .agg #[.int .i64 (p : Int), .int .i64 (q : Int)]] w fun en w' => en = .returned (.tuple #[]) ∧ FE base w B F (flatL (pre ++ [y])) (szL (pre ++ [y])) w' := by
  have hz := szL_len pre
  have e1 : flatL (pre ++ [x, y]) = flatL pre ++ x.flat ++ y.flat := by simp [flatL]
  have e2 : szL (pre ++ [x, y]) = szL pre ++ x.sz ++ y.sz := by simp [szL]
  have := drop_any base w B _ _ F h p q (by omega) (by rw [e1, List.length_append, List.length_append]; omega)
  rw [show (flatL (pre ++ [x, y])).take p ++ (flatL (pre ++ [x, y])).drop q = flatL (pre ++ [y]) by rw [e1, hq, hp, take_at, drop_at, flatL_append, flatL_one],
    show (szL (pre ++ [x, y])).take p ++ (szL (pre ++ [x, y])).drop q = szL (pre ++ [y]) by rw [e2, hq, hp, ← hz, take_at, ← x.sz_len, drop_at, szL_append, szL_one]] at this
  exact this
/-- A root with one part is taken off. -/
theorem drop_root {base : Nat} {w : World} {B : Nat} {F : Fb} {pre : List Tr} {n : Nd} {a : Tr} (h : FS base w B (flatL (pre ++ [.one n a])) (szL (pre ++ [.one n a])) F) {r e : Nat} (he : e = (flatL (pre ++ [.one n a])).length) (hr : r = e - 1) :
    Calls Tryd.prog 78 #[.pointer (some ⟨B, 0, none⟩), .agg #[.int .i64 (r : Int), .int .i64 (e : Int)]] w fun en w' => en = .returned (.tuple #[]) ∧ FE base w B F (flatL (pre ++ [a])) (szL (pre ++ [a])) w' := by
  have hz := szL_len (pre ++ [.one n a])
  have hz2 := szL_len (pre ++ [a])
  have e1 : flatL (pre ++ [.one n a]) = flatL (pre ++ [a]) ++ [n] := by simp [flatL, Tr.flat]
  have e2 : szL (pre ++ [.one n a]) = szL (pre ++ [a]) ++ [a.flat.length + 1] := by simp [szL, Tr.sz]
  have e3 : r = (flatL (pre ++ [a])).length := by rw [hr, he, e1, List.length_append, List.length_singleton]; omega
  have := drop_any base w B _ _ F h r e (by omega) (by omega)
  rw [show (flatL (pre ++ [.one n a])).take r ++ (flatL (pre ++ [.one n a])).drop e = flatL (pre ++ [a]) by rw [he, List.drop_length, e1, e3, List.take_left, List.append_nil],
    show (szL (pre ++ [.one n a])).take r ++ (szL (pre ++ [.one n a])).drop e = szL (pre ++ [a]) by rw [he, ← hz, List.drop_length, e2, e3, ← hz2, List.take_left, List.append_nil]] at this
  exact this
theorem all_len {t : Tr} (ho : t.ok) (h2 : t.flat.length = 2) : ∃ n m, t = .one n (.zero m) ∧ n = (n.1, 0) ∧ t.flat = [m, n] := by
  match t, ho, h2 with
  | .zero n, ho, h2 => simp [Tr.flat] at h2
  | .two n a b, ho, h2 =>
    have := a.len_pos
    have := b.len_pos
    simp only [Tr.flat, List.length_append, List.length_singleton] at h2
    omega
  | .one n (.zero m), ho, h2 => exact ⟨n, m, rfl, good_one ho.1 ho.2.1, rfl⟩
  | .one n (.one m a), ho, h2 =>
    have := a.len_pos
    simp only [Tr.flat, List.length_append, List.length_singleton] at h2
    omega
  | .one n (.two m a b), ho, h2 =>
    have := a.len_pos
    have := b.len_pos
    simp only [Tr.flat, List.length_append, List.length_singleton] at h2
    omega
theorem At.first {N : List Nd} {Z : List Nat} {p e : Nat} {t : Tr} {m : Nd} {l : List Nd} (h : At N Z p e t) (hf : t.flat = m :: l) : N.getD p (0, 0) = m := by
  obtain ⟨A, C, e1, rfl⟩ := h.nod
  rw [e1, hf, List.getD_eq_getElem?_getD, List.append_assoc, List.getElem?_append_right (Nat.le_refl _), Nat.sub_self]
  rfl
theorem good_none {m : Nd} (h : (Tr.zero m).ok) (h1 : m.1 = 1) : m = (1, 0) := by
  obtain ⟨k, s⟩ := m
  have hg := h.1
  simp only at h1
  subst h1
  simp [good] at hg
  rw [hg]

abbrev S4c (W : World) (b1 o1 b2 o2 b3 o3 b4 o4 : Nat) (u1 u2 u3 u4 : Value) (w' : World) : Prop := w'.cell? ⟨b1, o1, none⟩ = some u1 ∧ w'.cell? ⟨b2, o2, none⟩ = some u2 ∧ w'.cell? ⟨b3, o3, none⟩ = some u3 ∧ w'.cell? ⟨b4, o4, none⟩ = some u4 ∧ Below W.heap.size W w'
theorem s4c_step {W : World} {b1 o1 b2 o2 b3 o3 b4 o4 : Nat} {u1 u2 u3 u4 : Value} {w1 w2 : World} (hb : Below w1.heap.size w1 w2) (h : S4c W b1 o1 b2 o2 b3 o3 b4 o4 u1 u2 u3 u4 w1) : S4c W b1 o1 b2 o2 b3 o3 b4 o4 u1 u2 u3 u4 w2 := by
  have hc : ∀ {b o : Nat} {u : Value}, w1.cell? ⟨b, o, none⟩ = some u → w2.cell? ⟨b, o, none⟩ = some u := fun {b o u} h => (World.cell?_of_block (hb.block b (World.block_lt_of_cell? w1 _ h))).trans h
  exact ⟨hc h.1, hc h.2.1, hc h.2.2.1, hc h.2.2.2.1, go_on h.2.2.2.2 hb⟩

set_option maxHeartbeats 4000000 in
set_option maxRecDepth 100000 in
theorem isAllT {base : Nat} {w : World} {B : Nat} {N : List Nd} {Z : List Nat} {F : Fb} (h : FS base w B N Z F) {p e : Nat} {t : Tr} (ht : At N Z p e t) (ho : t.ok) :
    Calls Tryd.prog 86 #[.pointer (some ⟨B, 0, none⟩), .agg #[.int .i64 (p : Int), .int .i64 (e : Int)]] w fun en w' => en = .returned (.bool (decide (t = tAll))) ∧ Below w.heap.size w w' := by
  have hle := ht.le
  have hend := ht.end_
  have hsm := h.small
  have hcp := h.caps
  have hlt := h.lt
  obtain ⟨hnb, _, _, _⟩ := h.lts
  obtain ⟨c0, _⟩ := h.cells
  have hw : IntKind.i64.wrap ((e : Int) - (p : Int)) = ((e - p : Nat) : Int) := by rw [IntKind.wrap_i64]; omega
  by_cases h2 : t.flat.length = 2
  · obtain ⟨n, m, et, hn0, hf⟩ := all_len ho h2
    have hm := ht.first hf
    have hn := (h.node p (by omega)).1
    rw [hm] at hn
    have hep : e - p = 2 := by omega
    rw [hep] at hw
    have hw' : (e : Int) - (p : Int) = 2 := by omega
    have hw2 : IntKind.i64.wrap ((e : Int) - (p : Int)) = 2 := hw
    have HE : Hid (decide (t = tAll) = (decide (m.1 = 1) && decide (n.1 = 9))) := by
      show _ = _
      rw [← Bool.decide_and, et]
      apply decide_eq_decide.2
      constructor
      · intro e
        simp only [tAll, tNone, Tr.one.injEq, Tr.zero.injEq] at e
        rw [e.1, e.2]; exact ⟨rfl, rfl⟩
      · rintro ⟨h1, h9⟩
        rw [et] at ho
        rw [hn0, h9, good_none ho.2.2 h1]
        rfl
    have HR : Hid (t.root.1 = n.1) := by show _ = _; rw [et]; rfl
    have HS : Hid (FS base w B N Z F) := h
    have HT : Hid (At N Z p e t) := ht
    have hpl : p < N.length := by omega
    have hplI : (p : Int) < N.length := by omega
    obtain ⟨mk, ms⟩ := m
    simp only at hn HE
    clear h ht hf hm et hn0 hep hw hend h2 ho
    by_cases h1 : mk = 1
    · subst h1
      have HE2 : Hid (decide (t = tAll) = (n.1 == 9)) := by show _ = _; rw [HE.out]; simp; rfl
      have HB0 : Hid (Below w.heap.size w (w.alloc (.cells #[.int .i64 (p : Int), .int .i64 (e : Int)] 70))) := (Below.refl _ _).alloc (Nat.le_refl _) _
      have HX0 : Hid (Bx (w.alloc (.cells #[.int .i64 (p : Int), .int .i64 (e : Int)] 70)) w.heap.size (.int .i64 (p : Int)) (.int .i64 (e : Int))) := Bx.new w _ _
      go_enter Tryd.func86, Tryd.ntmps86
      go_wp2_with fail
      generalize w.alloc (.cells #[.int .i64 (p : Int), .int .i64 (e : Int)] 70) = wA at HB0 HX0 ⊢
      have S0 : S4c wA B 0 w.heap.size 0 w.heap.size 1 F.nb (p * 2) (.slice (some ⟨F.nb, 0, none⟩) N.length F.nc) (.int .i64 (p : Int)) (.int .i64 (e : Int)) (.int .i64 1) wA.drew :=
        ⟨(World.cell?_of_block (HB0.out.block B hlt)).trans c0, HX0.out.cells.1, HX0.out.cells.2.1, (World.cell?_of_block (HB0.out.block F.nb hnb)).trans hn, (Below.refl _ _).drew⟩
      clear c0 hn
      go_region_held3 (fun w' => S4c wA B 0 w.heap.size 0 w.heap.size 1 F.nb (p * 2) (.slice (some ⟨F.nb, 0, none⟩) N.length F.nc) (.int .i64 (p : Int)) (.int .i64 (e : Int)) (.int .i64 1) w') (first | exact S0 | assumption | exact s4c_step (by assumption) (by assumption)) (first
        | (go_at_call 72; refine (rootT (HS.out.stay (go_on HB0.out (show S4c wA B 0 w.heap.size 0 w.heap.size 1 F.nb (p * 2) _ _ _ _ _ from by assumption).2.2.2.2)) HT.out).mono ?_; rintro en w3 ⟨rfl, hb3⟩; rw [HR.out]))
      all_goals go_wp2_with fail
      all_goals
        go_ret
        exact ⟨by rw [HE2.out]; rfl, go_on HB0.out (show S4c wA B 0 w.heap.size 0 w.heap.size 1 F.nb (p * 2) (.slice (some ⟨F.nb, 0, none⟩) N.length F.nc) (.int .i64 (p : Int)) (.int .i64 (e : Int)) (.int .i64 1) _ from by first | assumption | exact s4c_step (by assumption) (by assumption)).2.2.2.2⟩
    · have hb1 : (mk == 1) = false := by simpa using h1
      have HE2 : Hid (decide (t = tAll) = false) := by show _ = _; rw [HE.out]; simp [h1]
      clear h1
      go_enter Tryd.func86, Tryd.ntmps86
      go_wp2_with fail
      go_region
      all_goals go_wp2_with fail
      all_goals
        go_ret
        exact ⟨by rw [HE2.out]; rfl, ((Below.refl _ _).alloc (Nat.le_refl _) _).drew⟩
  · have hep : ¬ e - p = 2 := by omega
    obtain ⟨d, hd⟩ : ∃ d : Int, (e : Int) - (p : Int) = d := ⟨_, rfl⟩
    have hb1 : (d == 2) = false := by rw [beq_eq_false_iff_ne]; omega
    have hdw : IntKind.i64.wrap d = d := by rw [IntKind.wrap_i64]; omega
    have HE2 : Hid (decide (t = tAll) = false) := by
      show _ = _
      rw [decide_eq_false]
      intro e
      exact h2 (by rw [e]; rfl)
    clear h ht h2 hep hw hend ho
    go_enter Tryd.func86, Tryd.ntmps86
    go_wp2_with fail
    go_region
    all_goals go_wp2_with fail
    all_goals
      go_ret
      exact ⟨by rw [HE2.out]; rfl, ((Below.refl _ _).alloc (Nat.le_refl _) _).drew⟩

theorem first_ok {t : Tr} (h : t.ok) : (firstC t).ok := by
  match t, h with
  | .zero n, h => exact h
  | .one n a, h => exact h
  | .two n a b, h =>
    by_cases h7 : n.1 = 7
    · rw [firstC, if_pos h7]; exact h.2.2.1
    · rw [firstC, if_neg h7]; exact h

set_option maxHeartbeats 4000000 in
set_option maxRecDepth 100000 in
theorem beginsT {base : Nat} {w : World} {B : Nat} {N : List Nd} {Z : List Nat} {F : Fb} (h : FS base w B N Z F) {p e : Nat} {t : Tr} (ht : At N Z p e t) (ho : t.ok) :
    Calls Tryd.prog 87 #[.pointer (some ⟨B, 0, none⟩), .agg #[.int .i64 (p : Int), .int .i64 (e : Int)]] w fun en w' => en = .returned (.bool (decide (firstC t = tAll))) ∧ Below w.heap.size w w' := by
  have HS : Hid (FS base w B N Z F) := h
  have HT : Hid (At N Z p e t) := ht
  have HO : Hid t.ok := ho
  have hlt := h.lt
  have HB0 : Hid (Below w.heap.size w (w.alloc (.cells #[.int .i64 (p : Int), .int .i64 (e : Int)] 70))) := (Below.refl _ _).alloc (Nat.le_refl _) _
  have HX0 : Hid (Bx (w.alloc (.cells #[.int .i64 (p : Int), .int .i64 (e : Int)] 70)) w.heap.size (.int .i64 (p : Int)) (.int .i64 (e : Int))) := Bx.new w _ _
  clear h ht ho
  go_enter Tryd.func87, Tryd.ntmps87
  go_wp2_with fail
  generalize w.alloc (.cells #[.int .i64 (p : Int), .int .i64 (e : Int)] 70) = wA at HB0 HX0 ⊢
  refine (rootT (HS.out.stay HB0.out) HT.out).mono ?_
  rintro en w1 ⟨rfl, hb1⟩
  have HB1 : Hid (Below w.heap.size w w1) := go_on HB0.out hb1
  have HX1 : Hid (Bx w1 w.heap.size (.int .i64 (p : Int)) (.int .i64 (e : Int))) := HX0.out.stay hb1
  clear hb1 HX0 HB0
  obtain ⟨c0, c1, cf⟩ := HX1.out.cells
  by_cases h7 : t.root.1 = 7
  · obtain ⟨n, a, b, et⟩ : ∃ n a b, t = .two n a b := by
      cases t with
      | zero n => have := HO.out.2; have h7 : n.1 = 7 := h7; rw [h7] at this; simp [arity] at this
      | one n a => have := HO.out.2.1; have h7 : n.1 = 7 := h7; rw [h7] at this; simp [arity] at this
      | two n a b => exact ⟨n, a, b, rfl⟩
    subst et
    have hn7 : n.1 = 7 := h7
    obtain ⟨q, hqa, hqb⟩ := HT.out.two
    have HQA : Hid (At N Z p q a) := hqa
    have HQB : Hid (At N Z q (e - 1) b) := hqb
    have hqe : q < e := by have := hqb.le; omega
    have HFC : Hid (firstC (.two n a b) = a) := by show _ = _; rw [firstC, if_pos hn7]
    have HOA : Hid a.ok := HO.out.2.2.1
    rw [h7]
    clear hqa hqb h7 hn7
    obtain ⟨r, hr⟩ : ∃ r, e - 1 = r := ⟨_, rfl⟩
    go_wp2_with fail
    refine (partsT (HS.out.stay HB1.out) HQA.out HQB.out hqe p).mono ?_
    rintro en w2 ⟨rfl, hb2⟩
    have HB2 : Hid (Below w.heap.size w w2) := go_on HB1.out hb2
    have HX2 : Hid (Bx w2 w.heap.size (.int .i64 (p : Int)) (.int .i64 (e : Int))) := HX1.out.stay hb2
    rw [hr]
    clear hb2 HX1 HB1 c0 c1 cf hr
    obtain ⟨c0, c1, cf⟩ := HX2.out.cells
    have HB3 : Hid (Below w.heap.size w ((w2.setCell ⟨w.heap.size, 0, none⟩ (.int .i64 (p : Int))).setCell ⟨w.heap.size, 1, none⟩ (.int .i64 (q : Int)))) := below_put HB2.out (Nat.le_refl _) _ _
    have HX3 : Hid (Bx ((w2.setCell ⟨w.heap.size, 0, none⟩ (.int .i64 (p : Int))).setCell ⟨w.heap.size, 1, none⟩ (.int .i64 (q : Int))) w.heap.size (.int .i64 (p : Int)) (.int .i64 (q : Int))) := HX2.out.put _ _
    have g2 := HX2.out.lt
    go_wp2_with fail
    refine (isAllT (HS.out.stay HB3.out) HQA.out HOA.out).mono ?_
    rintro en w4 ⟨rfl, hb4⟩
    have HB4 : Hid (Below w.heap.size w w4) := go_on HB3.out hb4
    clear hb4
    go_wp2_with fail
    go_ret
    exact ⟨by rw [HFC.out]; rfl, HB4.out⟩
  · have hb7 : (t.root.1 == 7) = false := by simpa using h7
    have HFC : Hid (firstC t = t) := by
      show _ = _
      cases t with
      | zero n => rfl
      | one n a => rfl
      | two n a b => rw [firstC, if_neg (show ¬ n.1 = 7 from h7)]
    clear h7
    go_wp2_with fail
    refine (isAllT (HS.out.stay HB1.out) HT.out HO.out).mono ?_
    rintro en w4 ⟨rfl, hb4⟩
    have HB4 : Hid (Below w.heap.size w w4) := go_on HB1.out hb4
    clear hb4
    go_wp2_with fail
    go_ret
    exact ⟨by rw [HFC.out]; rfl, HB4.out⟩

/-- The forms as a stack of trees. -/
abbrev FT (base : Nat) (w : World) (B : Nat) (ts : List Tr) (F : Fb) : Prop := FS base w B (flatL ts) (szL ts) F
/-- What a rule leaves: the forms as another stack. -/
abbrev FTE (base : Nat) (w : World) (B : Nat) (F : Fb) (ts : List Tr) (w' : World) : Prop := FE base w B F (flatL ts) (szL ts) w'

theorem FE.after {base : Nat} {w w1 w' : World} {B : Nat} {F : Fb} {N : List Nd} {Z : List Nat} (hb : Below w.heap.size w w1) (h : FE base w1 B F N Z w') : FE base w B F N Z w' :=
  let ⟨F', hs, hg⟩ := h
  ⟨F', hs, (FG.of hb).trans hg⟩
theorem FE.chain {base : Nat} {w w1 w' : World} {B : Nat} {F F1 : Fb} {N : List Nd} {Z : List Nat} (hb : FG w w1 B F F1) (h : FE base w1 B F1 N Z w') : FE base w B F N Z w' :=
  let ⟨F', hs, hg⟩ := h
  ⟨F', hs, hb.trans hg⟩
theorem FE.stay {base : Nat} {w w1 w' : World} {B : Nat} {F : Fb} {N : List Nd} {Z : List Nat} (h : FE base w B F N Z w1) (hb : Below w1.heap.size w1 w') : FE base w B F N Z w' :=
  let ⟨F', hs, hg⟩ := h
  ⟨F', hs.stay hb, hg.trans (FG.of hb)⟩
end Go.Proofs.YtdmjcfecahcdnaaDoor
