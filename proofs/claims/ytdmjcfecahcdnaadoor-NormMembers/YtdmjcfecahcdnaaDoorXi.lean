/- The rule concat. -/
import Derived.Test.YtdmjcfecahcdnaaDoorXh
namespace Go.Proofs.YtdmjcfecahcdnaaDoor
open Go Go.RowKit
set_option linter.unusedVariables false

theorem flatL_cons (t : Tr) (l : List Tr) : flatL (t :: l) = t.flat ++ flatL l := rfl
theorem szL_cons (t : Tr) (l : List Tr) : szL (t :: l) = t.sz ++ szL l := rfl
theorem conc_pos (x : Tr) : 1 ≤ (conc x).length := List.length_pos_iff.2 (conc_ne x)
/-- A concatenation is its parts, one behind the other, and its roots behind them. -/
theorem conc_flat : ∀ {x : Tr}, x.ok → x.flat = flatL (conc x) ++ List.replicate ((conc x).length - 1) (7, 0) ∧ ∃ S, x.sz = szL (conc x) ++ S ∧ S.length = (conc x).length - 1
  | .zero n, h => ⟨by simp [conc, flatL], [], by simp [conc, szL], rfl⟩
  | .one n a, h => ⟨by simp [conc, flatL], [], by simp [conc, szL], rfl⟩
  | .two n a b, h => by
    by_cases e : n.1 = 7
    · obtain ⟨h1, S, h2, h3⟩ := conc_flat h.2.2.2
      have hp := conc_pos b
      have en : n = (7, 0) := by rw [good_two h.1 h.2.1, e]
      rw [conc, if_pos e]
      refine ⟨?_, S ++ [a.flat.length + b.flat.length + 1], ?_, ?_⟩
      · rw [Tr.flat, flatL_cons, en, h1, List.length_cons, show (conc b).length + 1 - 1 = ((conc b).length - 1) + 1 by omega, List.replicate_succ']
        simp only [List.append_assoc]
      · rw [Tr.sz, szL_cons, h2]
        simp only [List.append_assoc]
      · rw [List.length_append, List.length_singleton, h3, List.length_cons]; omega
    · rw [conc, if_neg e]
      exact ⟨by simp [flatL], [], by simp [szL], rfl⟩
/-- The last part is no concatenation. -/
theorem conc_last : ∀ {x : Tr}, x.ok → ∃ l p, conc x = l ++ [p] ∧ p.root.1 ≠ 7
  | .zero n, h => ⟨[], _, rfl, fun e => by
      have e : n.1 = 7 := e
      have := h.2
      rw [e] at this
      simp [arity] at this⟩
  | .one n a, h => ⟨[], _, rfl, fun e => by
      have e : n.1 = 7 := e
      have := h.2.1
      rw [e] at this
      simp [arity] at this⟩
  | .two n a b, h => by
    by_cases e : n.1 = 7
    · obtain ⟨l, p, h1, h2⟩ := conc_last h.2.2.2
      exact ⟨a :: l, p, by rw [conc, if_pos e, h1]; rfl, h2⟩
    · exact ⟨[], .two n a b, by rw [conc, if_neg e]; rfl, e⟩
theorem conc_ok : ∀ {x : Tr}, x.ok → Oks (conc x)
  | .zero n, h => by intro m hm; simp [conc] at hm; rw [hm]; exact h
  | .one n a, h => by intro m hm; simp [conc] at hm; rw [hm]; exact h
  | .two n a b, h => by
    unfold conc
    split
    · intro m hm
      rcases List.mem_cons.1 hm with rfl | hm
      · exact h.2.2.1
      · exact conc_ok h.2.2.2 m hm
    · intro m hm; simp at hm; rw [hm]; exact h
theorem cj_ok {p r : Tr} (hp : p.ok) (hr : r.ok) : (cj p r).ok := by
  unfold cj
  split
  · exact hr
  · exact ⟨rfl, rfl, hp, hr⟩
theorem fold_ok {r : Tr} (hr : r.ok) : ∀ {l : List Tr}, Oks l → (l.foldr cj r).ok
  | [], _ => hr
  | p :: l, h => cj_ok (h p (by simp)) (fold_ok hr (fun q hq => h q (by simp [hq])))
theorem flatL_lens : ∀ l : List Tr, (flatL l).length ≤ lens l
  | [] => by simp [flatL]
  | t :: l => by
    have := flatL_lens l
    rw [flatL_cons, List.length_append]
    simp only [lens, List.map_cons, List.sum_cons] at *
    omega
theorem lens_append (a b : List Tr) : lens (a ++ b) = lens a + lens b := by simp [lens]
/-- The nodes at the end of a concatenation's parts. -/
theorem conc_len {x : Tr} (ho : x.ok) : x.flat.length = (flatL (conc x)).length + ((conc x).length - 1) ∧ 1 ≤ (flatL (conc x)).length := by
  obtain ⟨h1, _⟩ := conc_flat ho
  obtain ⟨l, p, h2, _⟩ := conc_last ho
  have hp := p.len_pos
  refine ⟨by conv => lhs; rw [h1, List.length_append, List.length_replicate], ?_⟩
  rw [h2, flatL_append, List.length_append, flatL_one]
  omega
theorem root_in {pre post : List Tr} {x : Tr} (ho : x.ok) {q k : Nat} (hq : q = (flatL pre).length + x.flat.length) (hk : k < (conc x).length - 1) : ((flatL (pre ++ x :: post)).getD (q - 1 - k) (0, 0)).1 = 7 := by
  obtain ⟨h1, _⟩ := conc_flat ho
  obtain ⟨h3, h4⟩ := conc_len ho
  rw [flatL_append, flatL_cons, List.getD_eq_getElem?_getD, List.getElem?_append_right (by omega), List.getElem?_append_left (by omega), h1, List.getElem?_append_right (by omega), List.getElem?_replicate, if_pos (by omega)]
  rfl
theorem root_out {pre post : List Tr} {x : Tr} (ho : x.ok) {q : Nat} (hq : q = (flatL pre).length + x.flat.length) : ((flatL (pre ++ x :: post)).getD (q - 1 - ((conc x).length - 1)) (0, 0)).1 ≠ 7 := by
  obtain ⟨h1, _⟩ := conc_flat ho
  obtain ⟨h3, h4⟩ := conc_len ho
  obtain ⟨l, p, h5, h6⟩ := conc_last ho
  obtain ⟨X, hX⟩ := p.flat_root
  have e : flatL (conc x) = flatL l ++ X ++ [p.root] := by rw [h5, flatL_append, flatL_one, hX, List.append_assoc]
  have el : (flatL (conc x)).length = (flatL l ++ X).length + 1 := by rw [e, List.length_append, List.length_singleton]
  rw [flatL_append, flatL_cons, List.getD_eq_getElem?_getD, List.getElem?_append_right (by omega), List.getElem?_append_left (by omega), h1, List.getElem?_append_left (by omega), show q - 1 - ((conc x).length - 1) - (flatL pre).length = (flatL l ++ X).length by omega, e, List.getElem?_append_right (Nat.le_refl _), Nat.sub_self]
  exact h6
/-- The roots are taken off. -/
theorem drop_roots {base : Nat} {w : World} {B : Nat} {F : Fb} {pre : List Tr} {x y : Tr} (h : FT base w B (pre ++ [x, y]) F) (ho : x.ok) {a q : Nat} (hq : q = (flatL pre).length + x.flat.length) (ha : a = q - ((conc x).length - 1)) :
    Calls Tryd.prog 78 #[.pointer (some ⟨B, 0, none⟩), .agg #[.int .i64 (a : Int), .int .i64 (q : Int)]] w fun en w' => en = .returned (.tuple #[]) ∧ FTE base w B F (pre ++ conc x ++ [y]) w' := by
  obtain ⟨h1, S, h2, h3⟩ := conc_flat ho
  obtain ⟨h4, h5⟩ := conc_len ho
  have hz := szL_len pre
  have hz2 := szL_len (conc x)
  have e1 : flatL (pre ++ [x, y]) = (flatL pre ++ flatL (conc x)) ++ List.replicate ((conc x).length - 1) (7, 0) ++ y.flat := by rw [flatL_append, flatL_cons, flatL_one, h1]; simp only [List.append_assoc]
  have e2 : szL (pre ++ [x, y]) = (szL pre ++ szL (conc x)) ++ S ++ y.sz := by rw [szL_append, szL_cons, szL_one, h2]; simp only [List.append_assoc]
  have l1 : (flatL pre ++ flatL (conc x)).length = a := by rw [List.length_append]; omega
  have l2 : (szL pre ++ szL (conc x)).length = a := by rw [List.length_append]; omega
  have hqa : q = a + ((conc x).length - 1) := by omega
  have := drop_any base w B _ _ F h a q (by omega) (by rw [e1, List.length_append, List.length_append, l1, List.length_replicate]; omega)
  have f1 : (flatL (pre ++ [x, y])).take a ++ (flatL (pre ++ [x, y])).drop q = flatL (pre ++ conc x ++ [y]) := by
    have d := drop_at (A := flatL pre ++ flatL (conc x)) (X := List.replicate ((conc x).length - 1) ((7, 0) : Nd)) (Y := y.flat)
    have t := take_at (A := flatL pre ++ flatL (conc x)) (X := List.replicate ((conc x).length - 1) ((7, 0) : Nd)) (Y := y.flat)
    rw [l1] at d t
    rw [List.length_replicate, ← hqa] at d
    rw [e1, t, d, flatL_append, flatL_append, flatL_one]
  have f2 : (szL (pre ++ [x, y])).take a ++ (szL (pre ++ [x, y])).drop q = szL (pre ++ conc x ++ [y]) := by
    have d := drop_at (A := szL pre ++ szL (conc x)) (X := S) (Y := y.sz)
    have t := take_at (A := szL pre ++ szL (conc x)) (X := S) (Y := y.sz)
    rw [l2] at d t
    rw [h3, ← hqa] at d
    rw [e2, t, d, szL_append, szL_append, szL_one]
  rw [f1, f2] at this
  exact this

theorem take_last {α : Type} {l : List α} {j : Nat} (hj : j < l.length) : l.take (j + 1) = l.take j ++ [l[j]] ∧ l.drop j = l[j] :: l.drop (j + 1) :=
  ⟨by rw [List.take_add_one, List.getElem?_eq_getElem hj]; rfl, List.drop_eq_getElem_cons hj⟩

set_option maxHeartbeats 4000000 in
set_option maxRecDepth 100000 in
theorem concat_any {base : Nat} {w : World} {B : Nat} {F : Fb} {pre : List Tr} {x y : Tr} (h : FT base w B (pre ++ [x, y]) F) (hox : x.ok) (hoy : y.ok) (hN : (flatL (pre ++ [x, y])).length < 90000) :
    Calls Tryd.prog 69 #[.pointer (some ⟨B, 0, none⟩)] w fun en w' => en = .returned (.tuple #[]) ∧ FTE base w B F (pre ++ [(conc x).foldr cj y]) w' := by
  obtain ⟨p, q, e, hx, hy, he, hp⟩ := at_last2 pre x y
  have HS : Hid (FT base w B (pre ++ [x, y]) F) := h
  have HT : Hid (At (flatL (pre ++ [x, y])) (szL (pre ++ [x, y])) p q x) := hx
  have HU : Hid (At (flatL (pre ++ [x, y])) (szL (pre ++ [x, y])) q e y) := hy
  have HOX : Hid x.ok := hox
  have HOY : Hid y.ok := hoy
  have HE : Hid (e = (flatL (pre ++ [x, y])).length) := he
  have HQ : Hid (q = (flatL pre).length + x.flat.length) := by show _ = _; rw [← hp]; exact hx.end_
  have hlen : (flatL (pre ++ [x, y])).length = (flatL pre).length + x.flat.length + y.flat.length := by rw [flatL_append, flatL_cons, flatL_one]; simp only [List.length_append]; omega
  have HNL : Hid ((flatL pre).length + x.flat.length + y.flat.length < 90000) := by show _ < _; omega
  have hlt := h.lt
  have hle := hx.le
  have hle2 := hy.le
  obtain ⟨hc1, hc2⟩ := conc_len hox
  obtain ⟨r, hr⟩ : ∃ r, (conc x).length - 1 = r := ⟨_, rfl⟩
  have hrq : r + 1 ≤ q := by have := hx.end_; omega
  have hq9 : q < 90000 := by omega
  have HR : Hid ((conc x).length - 1 = r) := hr
  have HIN : Hid (∀ k, k < r → ((flatL (pre ++ [x, y])).getD (q - 1 - k) (0, 0)).1 = 7) := fun k hk => root_in hox HQ.out (by omega)
  have HOUT : Hid (((flatL (pre ++ [x, y])).getD (q - 1 - r) (0, 0)).1 ≠ 7) := by have := root_out (pre := pre) (post := [y]) hox HQ.out; rw [hr] at this; exact this
  have HND := h.node
  have HCP := h.caps
  have hqN : q ≤ (flatL (pre ++ [x, y])).length := hle.2
  obtain ⟨b0, _⟩ := h.cells
  obtain ⟨hnb, _, _, _⟩ := h.lts
  obtain ⟨N, hNe⟩ : ∃ N, flatL (pre ++ [x, y]) = N := ⟨_, rfl⟩
  rw [hNe] at b0 HIN HOUT HND HCP hqN
  have HND : Hid (∀ i, i < N.length → w.cell? ⟨F.nb, i * 2, none⟩ = some (.int .i64 (N.getD i (0, 0)).1) ∧ w.cell? ⟨F.nb, i * 2 + 1, none⟩ = some (.int .u8 (N.getD i (0, 0)).2)) := HND
  clear h hx hy hox hoy he hp hle hle2 hc1 hc2 hr hN hlen hNe
  go_enter Tryd.func69, Tryd.ntmps69
  go_wp2_with fail
  refine (lastT HS.out HT.out HU.out HE.out).mono ?_
  rintro en w1 ⟨rfl, hb1⟩
  have HB1 : Hid (Below w.heap.size w ((w1.alloc (.cells #[.int .i64 (p : Int), .int .i64 (q : Int)] 70)).alloc (.cells #[.int .i64 (q : Int), .int .i64 (e : Int)] 70))) := (hb1.alloc hb1.size _).alloc (by have := hb1.size; simp; omega) _
  have HX1 : Hid (Bx ((w1.alloc (.cells #[.int .i64 (p : Int), .int .i64 (q : Int)] 70)).alloc (.cells #[.int .i64 (q : Int), .int .i64 (e : Int)] 70)) w1.heap.size (.int .i64 (p : Int)) (.int .i64 (q : Int))) := (Bx.new w1 _ _).stay ((Below.refl _ _).alloc (Nat.le_refl _) _)
  clear hb1
  go_wp2_with fail
  obtain ⟨b, hb⟩ : ∃ b, w1.heap.size = b := ⟨_, rfl⟩
  generalize (w1.alloc (.cells #[.int .i64 (p : Int), .int .i64 (q : Int)] 70)).alloc (.cells #[.int .i64 (q : Int), .int .i64 (e : Int)] 70) = wA at HB1 HX1 ⊢
  rw [hb] at HX1 ⊢
  clear hb
  have B0 : wA.cell? ⟨B, 0, none⟩ = some (.slice (some ⟨F.nb, 0, none⟩) N.length F.nc) := (World.cell?_of_block (HB1.out.block B hlt)).trans b0
  have NDA : Hid (∀ i, i < N.length → wA.cell? ⟨F.nb, i * 2, none⟩ = some (.int .i64 (N.getD i (0, 0)).1)) := fun i hi => (World.cell?_of_block (HB1.out.block F.nb hnb)).trans (HND.out i hi).1
  clear b0 HND
  go_loopw [4] (fun v4 wr => ∃ k n : Nat, k ≤ r ∧ v4 = .int .i64 (k : Int) ∧ wr = wA.drewN n) (fun v4 _ => r - (intOf v4).toNat)
  case atStart => exact ⟨0, 0, Nat.zero_le _, rfl, rfl⟩
  case round =>
    obtain ⟨k, n, hk, rfl, rfl⟩ := hrel
    obtain ⟨x0, x1, _⟩ := HX1.out.cells
    have hcx := NDA.out (q - 1 - k) (by omega)
    have hi : q - 1 - k < N.length := by omega
    have hiI : ((q - 1 - k : Nat) : Int) < (N.length : Int) := by omega
    have hw1 : IntKind.i64.wrap ((q : Int) - 1) = ((q - 1 : Nat) : Int) := by rw [IntKind.wrap_i64]; omega
    have hw1' : (q : Int) - 1 = ((q - 1 : Nat) : Int) := by omega
    have hw2 : IntKind.i64.wrap (((q - 1 : Nat) : Int) - (k : Int)) = ((q - 1 - k : Nat) : Int) := by rw [IntKind.wrap_i64]; omega
    have hw2' : ((q - 1 : Nat) : Int) - (k : Int) = ((q - 1 - k : Nat) : Int) := by omega
    have HIK : Hid (k < r → (N.getD (q - 1 - k) (0, 0)).1 = 7) := HIN.out k
    have HOK : Hid (k = r → (N.getD (q - 1 - k) (0, 0)).1 ≠ 7) := fun e => by rw [e]; exact HOUT.out
    obtain ⟨c, hc⟩ : ∃ c, (N.getD (q - 1 - k) (0, 0)).1 = c := ⟨_, rfl⟩
    rw [hc] at hcx HIK HOK
    obtain ⟨q1, hq1⟩ : ∃ q1, q - 1 = q1 := ⟨_, rfl⟩
    rw [hq1] at hcx hi hiI hw1 hw1' hw2 hw2'
    obtain ⟨q2, hq2⟩ : ∃ q2, q1 - k = q2 := ⟨_, rfl⟩
    rw [hq2] at hcx hi hiI hw2 hw2'
    clear hc hq1 hq2
    by_cases hlk : k < r
    · have h7 := HIK.out hlk
      subst h7
      go_wp2_with fail
      go_region
      go_wp2_with fail
      go_roundw
      case rel => exact ⟨k + 1, n + 1, by omega, by go_num, rfl⟩
      case measure => simp [intOf]; omega
    · obtain rfl : k = r := by omega
      have h7 : (c == 7) = false := by rw [beq_eq_false_iff_ne]; exact HOK.out rfl
      obtain ⟨a, ha⟩ : ∃ a, a = q - k := ⟨_, rfl⟩
      have HA : Hid (a = q - ((conc x).length - 1)) := by show _ = _; rw [HR.out]; exact ha
      have hwa : (q : Int) - (k : Int) = (a : Int) := by omega
      have hwa2 : IntKind.i64.wrap ((q : Int) - (k : Int)) = (a : Int) := by rw [IntKind.wrap_i64]; omega
      have hwk : IntKind.i64.wrap ((k : Int) + 1) = ((k + 1 : Nat) : Int) := by rw [IntKind.wrap_i64]; omega
      clear ha
      go_wp2_with fail
      go_region
      go_wp2_with fail
      have HBn : Hid (Below w.heap.size w (wA.drewN (n + 1))) := below_drewN HB1.out _
      refine (drop_roots (HS.out.stay HBn.out) HOX.out HQ.out HA.out).mono ?_
      rintro en w2 ⟨rfl, F2, hs2, hg2⟩
      have HS2 : Hid (FT base w2 B (pre ++ conc x ++ [y]) F2) := hs2
      have HG2 : Hid (FG w w2 B F F2) := (FG.of HBn.out).trans hg2
      clear hs2 hg2 hcx hw1 hw1' hw2 hw2' hwa hwa2 x0 x1 B0 NDA HX1 HB1 h7 hi hiI HBn
      obtain ⟨m, hm⟩ : ∃ m, (conc x).length = m := ⟨_, rfl⟩
      have hmk : m = k + 1 := by have := HR.out; have := conc_pos x; omega
      have HM : Hid ((conc x).length = m) := hm
      clear hm
      go_wp2_with fail
      have hkm : ((k + 1 : Nat) : Int) = (m : Int) := by omega
      go_loopw [38] (fun v38 wr => ∃ (i : Nat) (F' : Fb), i ≤ m ∧ v38 = .int .i64 (i : Int) ∧ FT base wr B (pre ++ (conc x).take (m - i) ++ [((conc x).drop (m - i)).foldr cj y]) F' ∧ FG w wr B F F') (fun v38 _ => m - (intOf v38).toNat)
      case atStart => exact ⟨0, F2, Nat.zero_le _, rfl, by rw [Nat.sub_zero, ← HM.out, List.take_length, List.drop_length]; exact HS2.out, HG2.out⟩
      case round =>
        clear HS2 HG2
        obtain ⟨i, F', hi, rfl, hs, hg⟩ := hrel
        have HS3 : Hid (FT base wr B (pre ++ (conc x).take (m - i) ++ [((conc x).drop (m - i)).foldr cj y]) F') := hs
        have HG3 : Hid (FG w wr B F F') := hg
        clear hs hg
        by_cases hlt2 : i < m
        · have hltI : (i : Int) < (k : Int) + 1 := by omega
          obtain ⟨j, hj⟩ : ∃ j, m - i = j + 1 := ⟨m - i - 1, by omega⟩
          have hjl : j < (conc x).length := by rw [HM.out]; omega
          obtain ⟨t1, t2⟩ := take_last hjl
          obtain ⟨pp, hpp⟩ : ∃ pp, (conc x)[j] = pp := ⟨_, rfl⟩
          rw [hpp] at t1 t2
          have hopp : pp.ok := conc_ok HOX.out pp (by rw [← hpp]; exact List.getElem_mem _)
          have horr : (((conc x).drop (j + 1)).foldr cj y).ok := fold_ok HOY.out (fun z hz => conc_ok HOX.out z (List.mem_of_mem_drop hz))
          have hbnd : (flatL (pre ++ (conc x).take (j + 1) ++ [((conc x).drop (j + 1)).foldr cj y])).length < 95000 := by
            have h1 := fold_len y ((conc x).drop (j + 1))
            have h2 := flatL_lens ((conc x).take (j + 1))
            have h3 := lens_append ((conc x).take (j + 1)) ((conc x).drop (j + 1))
            rw [List.take_append_drop, lens_conc] at h3
            have h4 := HNL.out
            rw [flatL_append, flatL_append, flatL_one, List.length_append, List.length_append]
            omega
          have HCJ : Hid (((conc x).drop j).foldr cj y = cj pp (((conc x).drop (j + 1)).foldr cj y)) := by show _ = _; rw [t2]; rfl
          rw [hj] at HS3
          rw [t1] at HS3 hbnd
          obtain ⟨rst, hrst⟩ : ∃ rst, ((conc x).drop (j + 1)).foldr cj y = rst := ⟨_, rfl⟩
          rw [hrst] at HS3 hbnd HCJ horr
          obtain ⟨pr, hpr⟩ : ∃ pr, pre ++ (conc x).take j = pr := ⟨_, rfl⟩
          have hst : pre ++ ((conc x).take j ++ [pp]) ++ [rst] = pr ++ [pp, rst] := by rw [← hpr]; simp
          rw [hst] at HS3 hbnd
          have HS4 : Hid (FT base wr B (pr ++ [pp, rst]) F') := HS3.out
          have HNX : Hid (∀ {w9 : World} {F9 : Fb}, FT base w9 B (pr ++ [cj pp rst]) F9 → FT base w9 B (pre ++ (conc x).take (m - (i + 1)) ++ [((conc x).drop (m - (i + 1))).foldr cj y]) F9) := fun {w9 F9} h => by
            rw [show m - (i + 1) = j by omega, hpr, HCJ.out]
            exact h
          obtain ⟨P, Q, E, hP, hQ, hE, hPp⟩ := at_last2 pr pp rst
          have HP : Hid (At (flatL (pr ++ [pp, rst])) (szL (pr ++ [pp, rst])) P Q pp) := hP
          have HQ2 : Hid (At (flatL (pr ++ [pp, rst])) (szL (pr ++ [pp, rst])) Q E rst) := hQ
          have HEE : Hid (E = (flatL (pr ++ [pp, rst])).length) := hE
          have HPP : Hid (P = (flatL pr).length ∧ Q = P + pp.flat.length) := ⟨hPp, hP.end_⟩
          have HOP : Hid pp.ok := hopp
          have HOR : Hid rst.ok := horr
          have HBD : Hid ((flatL (pr ++ [pp, rst])).length < 95000) := hbnd
          clear t1 t2 hj hjl hpp hopp horr hbnd hrst hpr hst HS3 hP hQ hE hPp HCJ
          go_wp2_with fail
          refine (lastT HS4.out HP.out HQ2.out HEE.out).mono ?_
          rintro en w4 ⟨rfl, hb4⟩
          have HB4 : Hid (Below wr.heap.size wr ((w4.alloc (.cells #[.int .i64 (P : Int), .int .i64 (Q : Int)] 70)).alloc (.cells #[.int .i64 (Q : Int), .int .i64 (E : Int)] 70))) := (hb4.alloc hb4.size _).alloc (by have := hb4.size; simp; omega) _
          have HX4 : Hid (Bx ((w4.alloc (.cells #[.int .i64 (P : Int), .int .i64 (Q : Int)] 70)).alloc (.cells #[.int .i64 (Q : Int), .int .i64 (E : Int)] 70)) w4.heap.size (.int .i64 (P : Int)) (.int .i64 (Q : Int))) := (Bx.new w4 _ _).stay ((Below.refl _ _).alloc (Nat.le_refl _) _)
          have HY4 : Hid (Bx ((w4.alloc (.cells #[.int .i64 (P : Int), .int .i64 (Q : Int)] 70)).alloc (.cells #[.int .i64 (Q : Int), .int .i64 (E : Int)] 70)) (w4.heap.size + 1) (.int .i64 (Q : Int)) (.int .i64 (E : Int))) := by
            have := Bx.new (w4.alloc (.cells #[.int .i64 (P : Int), .int .i64 (Q : Int)] 70)) (.int .i64 (Q : Int)) (.int .i64 (E : Int))
            rw [show (w4.alloc (.cells #[.int .i64 (P : Int), .int .i64 (Q : Int)] 70)).heap.size = w4.heap.size + 1 by simp] at this
            exact this
          clear hb4
          go_wp2_with fail
          obtain ⟨c4, hc4⟩ : ∃ c4, w4.heap.size = c4 := ⟨_, rfl⟩
          generalize (w4.alloc (.cells #[.int .i64 (P : Int), .int .i64 (Q : Int)] 70)).alloc (.cells #[.int .i64 (Q : Int), .int .i64 (E : Int)] 70) = w5 at HB4 HX4 HY4 ⊢
          rw [hc4] at HX4 HY4 ⊢
          clear hc4
          refine (isAllT (HS4.out.stay HB4.out) HP.out HOP.out).mono ?_
          rintro en w6 ⟨rfl, hb6⟩
          have HB6 : Hid (Below wr.heap.size wr w6) := go_on HB4.out hb6
          have HX6 : Hid (Bx w6 c4 (.int .i64 (P : Int)) (.int .i64 (Q : Int))) := HX4.out.stay hb6
          have HY6 : Hid (Bx w6 (c4 + 1) (.int .i64 (Q : Int)) (.int .i64 (E : Int))) := HY4.out.stay hb6
          clear hb6 HB4 HX4 HY4
          obtain ⟨x0, x1, xf⟩ := HX6.out.cells
          obtain ⟨y0, y1, yf⟩ := HY6.out.cells
          by_cases hall : pp = tAll
          · rw [decide_eq_true hall]
            go_wp2_with fail
            refine (beginsT (HS4.out.stay HB6.out) HQ2.out HOR.out).mono ?_
            rintro en w7 ⟨rfl, hb7⟩
            have HB7 : Hid (Below wr.heap.size wr w7) := go_on HB6.out hb7
            have HX7 : Hid (Bx w7 c4 (.int .i64 (P : Int)) (.int .i64 (Q : Int))) := HX6.out.stay hb7
            clear hb7 x0 x1 xf y0 y1 yf HX6 HY6 HB6
            obtain ⟨x0, x1, xf⟩ := HX7.out.cells
            by_cases hfst : firstC rst = tAll
            · have HC : Hid (cj pp rst = rst) := by show _ = _; rw [cj, if_pos ⟨hall, hfst⟩]
              rw [decide_eq_true hfst]
              clear hall hfst
              go_wp2_with fail
              refine (drop_x (HS4.out.stay HB7.out) HPP.out.1 HPP.out.2).mono ?_
              rintro en w8 ⟨rfl, F8, hs8, hg8⟩
              have HS8 : Hid (FT base w8 B (pr ++ [cj pp rst]) F8) := by show FT _ _ _ _ _; rw [HC.out]; exact hs8
              have HG8 : Hid (FG w w8 B F F8) := HG3.out.trans ((FG.of HB7.out).trans hg8)
              clear hs8 hg8
              go_wp2_with fail
              go_roundw
              case rel => exact ⟨i + 1, F8, by omega, by go_num, HNX.out HS8.out, HG8.out⟩
              case measure => simp [intOf]; omega
            · have HC : Hid (cj pp rst = .two (7, 0) pp rst) := by show _ = _; rw [cj, if_neg (fun h => hfst h.2)]
              rw [decide_eq_false hfst]
              clear hall hfst
              go_wp2_with fail
              refine (put2 (HS4.out.stay HB7.out) (7, 0) (by have := HBD.out; omega)).mono ?_
              rintro en w8 ⟨rfl, F8, hs8, hg8⟩
              have HS8 : Hid (FT base w8 B (pr ++ [cj pp rst]) F8) := by show FT _ _ _ _ _; rw [HC.out]; exact hs8
              have HG8 : Hid (FG w w8 B F F8) := HG3.out.trans ((FG.of HB7.out).trans hg8)
              clear hs8 hg8
              go_wp2_with fail
              go_roundw
              case rel => exact ⟨i + 1, F8, by omega, by go_num, HNX.out HS8.out, HG8.out⟩
              case measure => simp [intOf]; omega
          · have HC : Hid (cj pp rst = .two (7, 0) pp rst) := by show _ = _; rw [cj, if_neg (fun h => hall h.1)]
            rw [decide_eq_false hall]
            clear hall
            go_wp2_with fail
            refine (put2 (HS4.out.stay HB6.out) (7, 0) (by have := HBD.out; omega)).mono ?_
            rintro en w8 ⟨rfl, F8, hs8, hg8⟩
            have HS8 : Hid (FT base w8 B (pr ++ [cj pp rst]) F8) := by show FT _ _ _ _ _; rw [HC.out]; exact hs8
            have HG8 : Hid (FG w w8 B F F8) := HG3.out.trans ((FG.of HB6.out).trans hg8)
            clear hs8 hg8
            go_wp2_with fail
            go_roundw
            case rel => exact ⟨i + 1, F8, by omega, by go_num, HNX.out HS8.out, HG8.out⟩
            case measure => simp [intOf]; omega
        · obtain rfl : i = m := by omega
          have hltI : ¬ (i : Int) < (k : Int) + 1 := by omega
          have HEND : Hid (FTE base w B F (pre ++ [(conc x).foldr cj y]) wr) := by
            refine ⟨F', ?_, HG3.out⟩
            have := HS3.out
            rw [Nat.sub_self, List.take_zero, List.drop_zero, List.append_nil] at this
            exact this
          go_wp2_with fail
          refine bodyPost_end (results_none rfl _ _ _) rfl ?_
          exact ⟨rfl, HEND.out⟩
end Go.Proofs.YtdmjcfecahcdnaaDoor
