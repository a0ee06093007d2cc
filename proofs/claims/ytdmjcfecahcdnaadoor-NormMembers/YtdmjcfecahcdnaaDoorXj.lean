/- The program's forms: greatest, and how two of them compare. -/
import Derived.Test.YtdmjcfecahcdnaaDoorXi
namespace Go.Proofs.YtdmjcfecahcdnaaDoor
open Go Go.RowKit
set_option linter.unusedVariables false

/-- A form's list, as the program tells it. -/
abbrev lstV (F : Fb) (p e : Nat) : Value := .slice (some ⟨F.nb, p * 2, none⟩) (e - p) (F.nc - p)
theorem FS.reads {base : Nat} {w : World} {B : Nat} {N : List Nd} {Z : List Nat} {F : Fb} (h : FS base w B N Z F) {p e : Nat} {t : Tr} (ht : At N Z p e t) : NReads w (lstV F p e) t.flat := by
  have h1 := ht.le
  have h2 := ht.end_
  have hl : t.flat.length = e - p := by omega
  refine ⟨some ⟨F.nb, p * 2, none⟩, F.nc - p, by rw [hl], fun i hi => ⟨F.nb, p * 2, rfl, h.lts.1, ?_, ?_⟩⟩
  all_goals
    have e1 : t.flat.getD i (0, 0) = N.getD (p + i) (0, 0) := by
      rw [← ht.take, List.getD_eq_getElem?_getD, List.getD_eq_getElem?_getD, List.getElem?_take, if_pos (by omega), List.getElem?_drop]
    rw [e1]
  · rw [show p * 2 + i * 2 = (p + i) * 2 by omega]; exact (h.node (p + i) (by omega)).1
  · rw [show p * 2 + i * 2 + 1 = (p + i) * 2 + 1 by omega]; exact (h.node (p + i) (by omega)).2

set_option maxHeartbeats 4000000 in
set_option maxRecDepth 100000 in
theorem listV_any {base : Nat} {w : World} {B : Nat} {N : List Nd} {Z : List Nat} {F : Fb} (h : FS base w B N Z F) {p e : Nat} {t : Tr} (ht : At N Z p e t) :
    Calls Tryd.prog 48 #[.pointer (some ⟨B, 0, none⟩), .agg #[.int .i64 (p : Int), .int .i64 (e : Int)]] w fun en w' => en = .returned (lstV F p e) ∧ Below w.heap.size w w' := by
  have hlt := h.lt
  have hsm := h.small
  have hcp := h.caps
  have hle := ht.le
  obtain ⟨hnb, _, _, _⟩ := h.lts
  obtain ⟨c0, _⟩ := h.cells
  have hna : ¬ F.nc = p := by omega
  clear h ht
  go_enter Tryd.func48, Tryd.ntmps48
  go_wp2_with fail
  go_region
  go_wp2_with fail
  go_ret
  exact ⟨rfl, ((Below.refl _ _).alloc (Nat.le_refl _) _).drew⟩

abbrev S5c (W : World) (b1 o1 b2 o2 b3 o3 b4 o4 b5 o5 : Nat) (u1 u2 u3 u4 u5 : Value) (w' : World) : Prop := w'.cell? ⟨b1, o1, none⟩ = some u1 ∧ w'.cell? ⟨b2, o2, none⟩ = some u2 ∧ w'.cell? ⟨b3, o3, none⟩ = some u3 ∧ w'.cell? ⟨b4, o4, none⟩ = some u4 ∧ w'.cell? ⟨b5, o5, none⟩ = some u5 ∧ Below W.heap.size W w'
theorem s5c_step {W : World} {b1 o1 b2 o2 b3 o3 b4 o4 b5 o5 : Nat} {u1 u2 u3 u4 u5 : Value} {w1 w2 : World} (hb : Below w1.heap.size w1 w2) (h : S5c W b1 o1 b2 o2 b3 o3 b4 o4 b5 o5 u1 u2 u3 u4 u5 w1) : S5c W b1 o1 b2 o2 b3 o3 b4 o4 b5 o5 u1 u2 u3 u4 u5 w2 := by
  have hc : ∀ {b o : Nat} {u : Value}, w1.cell? ⟨b, o, none⟩ = some u → w2.cell? ⟨b, o, none⟩ = some u := fun {b o u} h => (World.cell?_of_block (hb.block b (World.block_lt_of_cell? w1 _ h))).trans h
  exact ⟨hc h.1, hc h.2.1, hc h.2.2.1, hc h.2.2.2.1, hc h.2.2.2.2.1, go_on h.2.2.2.2.2 hb⟩

set_option maxHeartbeats 4000000 in
set_option maxRecDepth 100000 in
theorem compareT {base : Nat} {w : World} {B : Nat} {N : List Nd} {Z : List Nat} {F : Fb} (h : FS base w B N Z F) {p e p' e' : Nat} {t t' : Tr} (ht : At N Z p e t) (ht' : At N Z p' e' t') (cb : Nat) (hcb : w.cell? ⟨cb, 0, none⟩ = some (.pointer (some ⟨B, 0, none⟩))) :
    Calls Tryd.prog 81 #[.agg #[.int .i64 (p : Int), .int .i64 (e : Int)], .agg #[.int .i64 (p' : Int), .int .i64 (e' : Int)], .pointer (some ⟨cb, 0, none⟩)] w fun en w' => en = .returned (.int .i64 (ct t.flat t'.flat)) ∧ Below w.heap.size w w' := by
  have HS : Hid (FS base w B N Z F) := h
  have HT : Hid (At N Z p e t) := ht
  have HU : Hid (At N Z p' e' t') := ht'
  have HL : Hid (t.flat.length ≤ 9223372036854775806) := by show _ ≤ _; have := h.small; have := ht.le; have := ht.end_; omega
  have HC : Hid (w.cell? ⟨cb, 0, none⟩ = some (.pointer (some ⟨B, 0, none⟩))) := hcb
  have hcl : cb < w.heap.size := World.block_lt_of_cell? w _ hcb
  have HB0 : Hid (Below w.heap.size w ((w.alloc (.cells #[.int .i64 (p : Int), .int .i64 (e : Int)] 70)).alloc (.cells #[.int .i64 (p' : Int), .int .i64 (e' : Int)] 70))) := ((Below.refl _ _).alloc (Nat.le_refl _) _).alloc (by simp) _
  have HX0 : Hid (Bx ((w.alloc (.cells #[.int .i64 (p : Int), .int .i64 (e : Int)] 70)).alloc (.cells #[.int .i64 (p' : Int), .int .i64 (e' : Int)] 70)) w.heap.size (.int .i64 (p : Int)) (.int .i64 (e : Int))) := (Bx.new w _ _).stay ((Below.refl _ _).alloc (Nat.le_refl _) _)
  have HY0 : Hid (Bx ((w.alloc (.cells #[.int .i64 (p : Int), .int .i64 (e : Int)] 70)).alloc (.cells #[.int .i64 (p' : Int), .int .i64 (e' : Int)] 70)) (w.heap.size + 1) (.int .i64 (p' : Int)) (.int .i64 (e' : Int))) := by
    have := Bx.new (w.alloc (.cells #[.int .i64 (p : Int), .int .i64 (e : Int)] 70)) (.int .i64 (p' : Int)) (.int .i64 (e' : Int))
    rw [show (w.alloc (.cells #[.int .i64 (p : Int), .int .i64 (e : Int)] 70)).heap.size = w.heap.size + 1 by simp] at this
    exact this
  clear h ht ht' hcb
  go_enter Tryd.func81, Tryd.ntmps81
  go_wp2_with fail
  generalize (w.alloc (.cells #[.int .i64 (p : Int), .int .i64 (e : Int)] 70)).alloc (.cells #[.int .i64 (p' : Int), .int .i64 (e' : Int)] 70) = wA at HB0 HX0 HY0 ⊢
  have S0 : S5c wA cb 0 w.heap.size 0 w.heap.size 1 (w.heap.size + 1) 0 (w.heap.size + 1) 1 (.pointer (some ⟨B, 0, none⟩)) (.int .i64 (p : Int)) (.int .i64 (e : Int)) (.int .i64 (p' : Int)) (.int .i64 (e' : Int)) wA.drew :=
    ⟨(World.cell?_of_block (HB0.out.block cb hcl)).trans HC.out, HX0.out.cells.1, HX0.out.cells.2.1, HY0.out.cells.1, HY0.out.cells.2.1, (Below.refl _ _).drew⟩
  go_region_held3 (fun w' => S5c wA cb 0 w.heap.size 0 w.heap.size 1 (w.heap.size + 1) 0 (w.heap.size + 1) 1 (.pointer (some ⟨B, 0, none⟩)) (.int .i64 (p : Int)) (.int .i64 (e : Int)) (.int .i64 (p' : Int)) (.int .i64 (e' : Int)) w') (first | exact S0 | assumption | exact s5c_step (by assumption) (by assumption)) (first
    | (go_at_call_of 48 (Value.int IntKind.i64 (p : Int)); refine (listV_any (HS.out.stay (go_on HB0.out (show S5c wA cb 0 w.heap.size 0 w.heap.size 1 (w.heap.size + 1) 0 (w.heap.size + 1) 1 _ _ _ _ _ _ from by assumption).2.2.2.2.2)) HT.out).mono ?_; rintro en a1 ⟨rfl, ha1⟩)
    | (go_at_call 48; refine (listV_any (HS.out.stay (go_on HB0.out (show S5c wA cb 0 w.heap.size 0 w.heap.size 1 (w.heap.size + 1) 0 (w.heap.size + 1) 1 _ _ _ _ _ _ from by assumption).2.2.2.2.2)) HU.out).mono ?_; rintro en a2 ⟨rfl, ha2⟩)
    | (go_at_call 82; refine (compare_any _ _ t.flat t'.flat _ ((HS.out.stay (go_on HB0.out (show S5c wA cb 0 w.heap.size 0 w.heap.size 1 (w.heap.size + 1) 0 (w.heap.size + 1) 1 _ _ _ _ _ _ from by assumption).2.2.2.2.2)).reads HT.out) ((HS.out.stay (go_on HB0.out (show S5c wA cb 0 w.heap.size 0 w.heap.size 1 (w.heap.size + 1) 0 (w.heap.size + 1) 1 _ _ _ _ _ _ from by assumption).2.2.2.2.2)).reads HU.out) HL.out).mono ?_; rintro en a3 ⟨rfl, ha3⟩))
  all_goals go_wp2_with fail
  all_goals go_ret
  all_goals exact ⟨rfl, go_on HB0.out (show S5c wA cb 0 w.heap.size 0 w.heap.size 1 (w.heap.size + 1) 0 (w.heap.size + 1) 1 (.pointer (some ⟨B, 0, none⟩)) (.int .i64 (p : Int)) (.int .i64 (e : Int)) (.int .i64 (p' : Int)) (.int .i64 (e' : Int)) _ from by first | assumption | exact s5c_step (by assumption) (by assumption)).2.2.2.2.2⟩

theorem results_sp1 {fn : Func} {p : Tmp} (h : fn.results = #[.cell p 70]) {tmps : Array Value} {b : Nat} {x y : Value} {w : World} (hp : tmps.getD p undef = .pointer (some ⟨b, 0, none⟩)) (hb : Bx w b x y) :
    (results fn tmps).run Tryd.prog w = .ok (.agg #[x, y]) w := by
  have hp' : tmps[p]?.getD undef = .pointer (some ⟨b, 0, none⟩) := by simpa using hp
  simp [results, h, go_sem, hp', hb.cells.1, hb.cells.2.1, Result.andThen]

set_option maxHeartbeats 4000000 in
set_option maxRecDepth 100000 in
theorem greatestT {base : Nat} {w : World} {B : Nat} {N : List Nd} {Z : List Nat} {F : Fb} (h : FS base w B N Z F) {p e : Nat} {t : Tr} (ht : At N Z p e t) (ho : t.ok) (k : Int) (hk : k = 5 ∨ k = 6) :
    Calls Tryd.prog 83 #[.pointer (some ⟨B, 0, none⟩), .int .i64 k, .agg #[.int .i64 (p : Int), .int .i64 (e : Int)]] w fun en w' => ∃ p' e' : Nat, At N Z p' e' (grt k t) ∧ en = .returned (.agg #[.int .i64 (p' : Int), .int .i64 (e' : Int)]) ∧ Below w.heap.size w w' := by
  have HS : Hid (FS base w B N Z F) := h
  have HT : Hid (At N Z p e t) := ht
  have HO : Hid t.ok := ho
  have hsz : ((w.alloc (.cells #[.int .i64 (p : Int), .int .i64 (e : Int)] 70)).alloc (.cells #[.int .i64 0, .int .i64 0] 70)).heap.size = w.heap.size + 2 := by simp
  have HB0 : Hid (Below w.heap.size w ((w.alloc (.cells #[.int .i64 (p : Int), .int .i64 (e : Int)] 70)).alloc (.cells #[.int .i64 0, .int .i64 0] 70))) := ((Below.refl _ _).alloc (Nat.le_refl _) _).alloc (by simp) _
  have HX0 : Hid (Bx ((w.alloc (.cells #[.int .i64 (p : Int), .int .i64 (e : Int)] 70)).alloc (.cells #[.int .i64 0, .int .i64 0] 70)) w.heap.size (.int .i64 (p : Int)) (.int .i64 (e : Int))) := (Bx.new w _ _).stay ((Below.refl _ _).alloc (Nat.le_refl _) _)
  have HY0 : Hid (Bx ((w.alloc (.cells #[.int .i64 (p : Int), .int .i64 (e : Int)] 70)).alloc (.cells #[.int .i64 0, .int .i64 0] 70)) (w.heap.size + 1) (.int .i64 0) (.int .i64 0)) := by
    have := Bx.new (w.alloc (.cells #[.int .i64 (p : Int), .int .i64 (e : Int)] 70)) (.int .i64 0) (.int .i64 0)
    rw [show (w.alloc (.cells #[.int .i64 (p : Int), .int .i64 (e : Int)] 70)).heap.size = w.heap.size + 1 by simp] at this
    exact this
  clear h ht ho
  go_enter Tryd.func83, Tryd.ntmps83
  go_wp2_with fail
  generalize (w.alloc (.cells #[.int .i64 (p : Int), .int .i64 (e : Int)] 70)).alloc (.cells #[.int .i64 0, .int .i64 0] 70) = wA at hsz HB0 HX0 HY0 ⊢
  refine (rootT (HS.out.stay HB0.out) HT.out).mono ?_
  rintro en w1 ⟨rfl, hb1⟩
  have HB1 : Hid (Below w.heap.size w w1) := go_on HB0.out hb1
  have HX1 : Hid (Bx w1 w.heap.size (.int .i64 (p : Int)) (.int .i64 (e : Int))) := HX0.out.stay hb1
  have HY1 : Hid (Bx w1 (w.heap.size + 1) (.int .i64 0) (.int .i64 0)) := HY0.out.stay hb1
  clear hb1 HX0 HY0 HB0 hsz
  obtain ⟨c0, c1, cf⟩ := HX1.out.cells
  obtain ⟨d0, d1, df⟩ := HY1.out.cells
  by_cases hr : t.root.1 = k
  · obtain ⟨n, a, b, et⟩ : ∃ n a b, t = .two n a b := by
      cases t with
      | zero n => exact absurd hr (ok_root0 hk HO.out)
      | one n a => exact absurd hr (ok_root1 hk HO.out)
      | two n a b => exact ⟨n, a, b, rfl⟩
    subst et
    have hnk : n.1 = k := hr
    obtain ⟨q, hqa, hqb⟩ := HT.out.two
    have HQA : Hid (At N Z p q a) := hqa
    have HQB : Hid (At N Z q (e - 1) b) := hqb
    have hqe : q < e := by have := hqb.le; omega
    have HG : Hid (grt k (.two n a b) = b) := by show _ = _; rw [grt, if_pos hnk]
    have hbk : (k == k) = true := by simp
    rw [hr]
    clear hqa hqb hr hnk
    go_wp2_with fail
    refine (partsT (HS.out.stay HB1.out) HQA.out HQB.out hqe p).mono ?_
    rintro en w2 ⟨rfl, hb2⟩
    have HB2 : Hid (Below w.heap.size w w2) := go_on HB1.out hb2
    have HX2 : Hid (Bx w2 w.heap.size (.int .i64 (p : Int)) (.int .i64 (e : Int))) := HX1.out.stay hb2
    have HY2 : Hid (Bx w2 (w.heap.size + 1) (.int .i64 0) (.int .i64 0)) := HY1.out.stay hb2
    obtain ⟨r, hr⟩ : ∃ r, e - 1 = r := ⟨_, rfl⟩
    rw [hr] at HQB ⊢
    clear hb2 HX1 HY1 HB1 c0 c1 cf d0 d1 df hr
    obtain ⟨c0, c1, cf⟩ := HX2.out.cells
    obtain ⟨d0, d1, df⟩ := HY2.out.cells
    have g1 := HX2.out.lt
    have g2 := HY2.out.lt
    have HE : Hid (Below w.heap.size w ((((w2.setCell ⟨w.heap.size, 0, none⟩ (.int .i64 (q : Int))).setCell ⟨w.heap.size, 1, none⟩ (.int .i64 (r : Int))).setCell ⟨w.heap.size + 1, 0, none⟩ (.int .i64 (q : Int))).setCell ⟨w.heap.size + 1, 1, none⟩ (.int .i64 (r : Int)))) :=
      below_put (below_put HB2.out (by omega) _ _) (by omega) _ _
    have U1 : Hid (Bx ((((w2.setCell ⟨w.heap.size, 0, none⟩ (.int .i64 (q : Int))).setCell ⟨w.heap.size, 1, none⟩ (.int .i64 (r : Int))).setCell ⟨w.heap.size + 1, 0, none⟩ (.int .i64 (q : Int))).setCell ⟨w.heap.size + 1, 1, none⟩ (.int .i64 (r : Int))) (w.heap.size + 1) (.int .i64 (q : Int)) (.int .i64 (r : Int))) :=
      ((HY2.out.off (by omega)).off (by omega)).put _ _
    go_wp2_with fail
    exact bodyPost_ret (results_sp1 rfl rfl U1.out) rfl ⟨q, r, by rw [HG.out]; exact HQB.out, rfl, HE.out⟩
  · have hbk : (t.root.1 == k) = false := by simpa using hr
    have HG : Hid (grt k t = t) := by
      show _ = _
      cases t with
      | zero n => rfl
      | one n a => rfl
      | two n a b => rw [grt, if_neg (show ¬ n.1 = k from hr)]
    have g1 := HX1.out.lt
    have g2 := HY1.out.lt
    have HE : Hid (Below w.heap.size w ((w1.setCell ⟨w.heap.size + 1, 0, none⟩ (.int .i64 (p : Int))).setCell ⟨w.heap.size + 1, 1, none⟩ (.int .i64 (e : Int)))) := below_put HB1.out (by omega) _ _
    have U1 : Hid (Bx ((w1.setCell ⟨w.heap.size + 1, 0, none⟩ (.int .i64 (p : Int))).setCell ⟨w.heap.size + 1, 1, none⟩ (.int .i64 (e : Int))) (w.heap.size + 1) (.int .i64 (p : Int)) (.int .i64 (e : Int))) := HY1.out.put _ _
    clear hr
    go_wp2_with fail
    exact bodyPost_ret (results_sp1 rfl rfl U1.out) rfl ⟨p, e, by rw [HG.out]; exact HT.out, rfl, HE.out⟩
end Go.Proofs.YtdmjcfecahcdnaaDoor
