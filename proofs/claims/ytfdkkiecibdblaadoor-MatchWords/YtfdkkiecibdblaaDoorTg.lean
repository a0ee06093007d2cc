/- The depth of a tree, by a stack; contract of tree.Depth (heaviestWay with a weight of 1). -/
import Derived.Test.YtfdkkiecibdblaaDoorTe
import Derived.Deep.RegionHeld3
namespace Go.Proofs.YtfdkkiecibdblaaDoor
open Go.RowKit

/-- One node more, on the stack of the heaviest ways (the last one behind). -/
def hpush (wt : Nd → Nat) (n : Nd) (F : List Nat) : List Nat := F.take (F.length - arity n.1) ++ [(F.drop (F.length - arity n.1)).foldl max 0 + wt n]
def heavy (wt : Nd → Nat) : List Nd → List Nat → List Nat
  | [], F => F
  | n :: ts, F => heavy wt ts (hpush wt n F)
def heavyN (wt : Nd → Nat) (ts : List Nd) : List Nat := heavy wt ts []
theorem heavy_append (wt : Nd → Nat) (a b : List Nd) (F : List Nat) : heavy wt (a ++ b) F = heavy wt b (heavy wt a F) := by
  induction a generalizing F with
  | nil => rfl
  | cons n a ih => simp only [List.cons_append, heavy]; rw [ih]
theorem heavy_take {wt : Nd → Nat} {ts : List Nd} {i : Nat} (h : i < ts.length) : heavyN wt (ts.take (i + 1)) = hpush wt (ts.getD i (0, 0)) (heavyN wt (ts.take i)) := by
  unfold heavyN
  rw [List.take_add_one, heavy_append]
  simp only [List.getElem?_eq_getElem h, Option.toList_some, heavy, List.getD_eq_getElem?_getD, Option.getD_some]
theorem hpush_len {wt : Nd → Nat} {n : Nd} {F : List Nat} : (hpush wt n F).length = F.length - arity n.1 + 1 := by
  unfold hpush; simp
theorem fold_le {m : Nat} : ∀ (l : List Nat) (x : Nat), x ≤ m → (∀ y ∈ l, y ≤ m) → l.foldl max x ≤ m
  | [], _, h, _ => h
  | a :: l, x, h, hl => fold_le l (max x a) (by have := hl a (by simp); omega) (fun y hy => hl y (by simp [hy]))
theorem hpush_le {wt : Nd → Nat} {n : Nd} {F : List Nat} {i : Nat} (hw : wt n ≤ 1) (h : ∀ x ∈ F, x ≤ i) : ∀ x ∈ hpush wt n F, x ≤ i + 1 := by
  intro x hx
  unfold hpush at hx
  rw [List.mem_append] at hx
  rcases hx with hx | hx
  · have := h x (List.mem_of_mem_take hx); omega
  · simp at hx
    have := fold_le (m := i) (F.drop (F.length - arity n.1)) 0 (by omega) (fun y hy => h y (List.mem_of_mem_drop hy))
    omega
theorem fold_take (l : List Nat) (t : Nat) (h : t < l.length) : (l.take (t + 1)).foldl max 0 = max ((l.take t).foldl max 0) (l.getD t 0) := by
  rw [List.take_add_one, List.foldl_append]
  simp [List.getElem?_eq_getElem h]
/-- Numbers as cells. -/
def nC (l : List Nat) : List Value := l.map fun (n : Nat) => Value.int .i64 (n : Int)
theorem nC_append (a b : List Nat) : nC (a ++ b) = nC a ++ nC b := by simp [nC]
theorem own_ncell {w : World} {base : Nat} {l : List Nat} {a : Option Addr} {n cap : Nat} (h : w.ownsRow base 3 1 (.slice a n cap) n (nC l)) (i : Nat) (hi : i < n) : ∃ g, a = some ⟨g, 0, none⟩ ∧ g < w.heap.size ∧ base ≤ g ∧ w.cell? ⟨g, i, none⟩ = some (.int .i64 ((l.getD i 0 : Nat) : Int)) := by
  obtain ⟨h0, h1⟩ := h
  rcases h1 with ⟨_, hn⟩ | ⟨g, cp, cur, e, r1, r2, r3, r4, r5, r6⟩
  · omega
  · simp only [Value.slice.injEq] at e
    obtain ⟨rfl, _, rfl⟩ := e
    have hl : i < l.length := by simp [nC] at h0; omega
    refine ⟨g, rfl, (Array.getElem?_eq_some_iff.1 r2).1, r1, ?_⟩
    have hj : (nC l)[i]? = some (.int .i64 ((l.getD i 0 : Nat) : Int)) := by simp [nC, hl]
    rw [← r6, List.getElem?_take] at hj
    split at hj
    · simp only [World.cell?, r2]
      simpa using hj
    · cases hj
/-- The beginning of a row is one. -/
theorem own_cut {w : World} {base : Nat} {l : List Nat} {a : Option Addr} {n cap : Nat} (h : w.ownsRow base 3 1 (.slice a n cap) n (nC l)) (p : Nat) (hp : p ≤ n) : w.ownsRow base 3 1 (.slice a p cap) p (nC (l.take p)) := by
  obtain ⟨h0, h1⟩ := h
  have hl : l.length = n := by simpa [nC] using h0
  refine ⟨by simp [nC]; omega, ?_⟩
  rcases h1 with ⟨e, hn⟩ | ⟨g, cp, cur, e, r1, r2, r3, r4, r5, r6⟩
  · simp only [Value.slice.injEq] at e
    obtain ⟨rfl, _, rfl⟩ := e
    exact .inl ⟨by rw [show p = 0 by omega], by omega⟩
  · simp only [Value.slice.injEq] at e
    obtain ⟨rfl, _, rfl⟩ := e
    refine .inr ⟨g, cap, cur, rfl, r1, r2, by omega, r4, r5, ?_⟩
    have : nC (l.take p) = (nC l).take (p * 1) := by simp [nC, List.map_take]
    rw [this, ← r6, List.take_take]
    congr 1
    omega

set_option maxHeartbeats 400000 in
theorem depth1_any (n : Nd) (w : World) : Calls Tryd.prog 57 #[ndV n] w fun e w' => e = .returned (.int .i64 1) ∧ Below w.heap.size w w' := by
  unfold ndV
  go_enter Tryd.func57, Tryd.ntmps57
  go_wp2
  go_ret
  exact ⟨rfl, by first | exact Below.refl _ _ | exact (Below.refl _ _).alloc (Nat.le_refl _) _⟩

/-- A block holds what it held; nothing that w had is written. -/
abbrev QS (w : World) (p : Nat) (l : Array Value) (w' : World) : Prop := (∀ o, w'.cell? ⟨p, o, none⟩ = l[o]?) ∧ p < w'.heap.size ∧ Below w.heap.size w w'
theorem qs_step {w : World} {p : Nat} {l : Array Value} {w1 w2 : World} (hb : Below w1.heap.size w1 w2) (h : QS w p l w1) : QS w p l w2 :=
  ⟨fun o => by rw [below_cell hb h.2.1]; exact h.1 o, Nat.lt_of_lt_of_le h.2.1 hb.size, go_on h.2.2 hb⟩
theorem qs_alloc {w : World} {p : Nat} {l : Array Value} {w1 : World} (o : Obj) (h : QS w p l w1) : QS w p l (w1.alloc o) := qs_step ((Below.refl _ _).alloc (Nat.le_refl _) o) h
theorem qs_grown {w : World} {p : Nat} {l : Array Value} {w1 w2 : World} {row : Option Nat} (hg : w1.grownBy w2 row) (h : QS w p l w1) (h1 : ∀ k, row = some k → w.heap.size ≤ k ∧ k < p) : QS w p l w2 := by
  have hb : w2.heap[p]? = w1.heap[p]? := hg.block p h.2.1 (fun e => by have := (h1 p e.symm).2; omega)
  refine ⟨fun o => ?_, ?_, h.2.2.grown hg h.2.2.size (fun k hk => (h1 k hk).1)⟩
  · rw [← h.1 o]
    simp only [World.cell?, hb]
  · have := (h.2.2.grown hg h.2.2.size (fun k hk => (h1 k hk).1))
    rw [Array.getElem?_eq_getElem h.2.1] at hb
    exact (Array.getElem?_eq_some_iff.1 hb).1
theorem own_drew {w : World} {base : Nat} {e : TypeId} {size n : Nat} {v : Value} {xs : List Value} (h : w.ownsRow base e size v n xs) : w.drew.ownsRow base e size v n xs := h

set_option maxHeartbeats 4000000 in
set_option maxRecDepth 100000 in
theorem way_depth (v : Value) (ts : List Nd) (w : World) (hv : NReads w v ts) (hm : ts.length ≤ 4000) (hP : PTab w) (hok : wrong ts = 0) (hf : freeN ts = some 1) :
    Calls Tryd.prog 56 #[v, .func (.func 57) #[] #[]] w fun e w' => e = .returned (.tuple #[.int .i64 (((heavyN (fun _ => 1) ts).getD 0 0 : Nat) : Int), .int .i64 0]) ∧ Below w.heap.size w w' := by
  have HV : Hid (NReads w v ts) := hv
  have HP : Hid (PTab w) := hP
  have HX : Hid (wrong ts = 0) := hok
  have HFr : Hid (∀ i, i < ts.length → ∃ c, freeN (ts.take i) = some c ∧ good (ts.getD i (0, 0)) = true ∧ arity (ts.getD i (0, 0)).1 ≤ c ∧ freeN (ts.take (i + 1)) = some (c - arity (ts.getD i (0, 0)).1 + 1)) := fun i hi => free_good hf hi
  have HF : Hid (freeN ts = some 1) := hf
  obtain ⟨i0, hi, hz0, hz1, hz2⟩ := info_parts Tryd.info_int
  obtain ⟨a, cap, rfl, hr⟩ := hv
  have HR : Hid _ := hr
  clear hr hP hok hf
  go_enter Tryd.func56, Tryd.ntmps56
  go_wp2_with fail
  refine (treeError_any _ ts _ HV.out (by omega) HP.out).mono ?_
  rintro e w1 ⟨rfl, hb1⟩
  rw [HX.out]
  have HB1 : Hid (Below w.heap.size w w1) := hb1
  clear hb1
  go_wp2_with fail
  go_loopw [7, 21] (fun vf vi wr => ∃ i : Nat, i ≤ ts.length ∧ vi = .int .i64 i ∧ wr.ownsRow w.heap.size 3 1 vf (heavyN (fun _ => 1) (ts.take i)).length (nC (heavyN (fun _ => 1) (ts.take i))) ∧ freeN (ts.take i) = some (heavyN (fun _ => 1) (ts.take i)).length ∧ (∀ x ∈ heavyN (fun _ => 1) (ts.take i), x ≤ i) ∧ Below w.heap.size w wr) (fun _ vi _ => ts.length - (intOf vi).toNat)
  case atStart => exact ⟨0, Nat.zero_le _, rfl, by show World.ownsRow _ _ _ _ _ 0 []; exact World.ownsRow_nil _ _ _ _, rfl, fun x hx => by simp [heavyN, heavy] at hx, HB1.out⟩
  case round =>
    obtain ⟨i, hile, rfl, hown, hfc, hbd, hb⟩ := hrel
    have hst : ∀ h : i < ts.length, heavyN (fun _ => 1) (ts.take (i + 1)) = hpush (fun _ => 1) (ts.getD i (0, 0)) (heavyN (fun _ => 1) (ts.take i)) := fun h => heavy_take h
    by_cases hlt : i < ts.length
    · have hst2 := hst hlt
      have hiI : (i : Int) < ts.length := by omega
      obtain ⟨g, o, rfl, hg, h1, h2⟩ := HR.out i hlt
      obtain ⟨c', hc', hgood, har, hnext⟩ := HFr.out i hlt
      obtain ⟨F, hF⟩ : ∃ F, heavyN (fun _ => 1) (ts.take i) = F := ⟨_, rfl⟩
      rw [hF] at hown hfc hbd hst2
      obtain rfl : c' = F.length := by rw [hfc] at hc'; simpa using hc'.symm
      obtain ⟨⟨k, s⟩, hn⟩ : ∃ n, ts.getD i (0, 0) = n := ⟨_, rfl⟩
      rw [hn] at h1 h2 hgood har hnext hst2
      have c1 : wr.cell? ⟨g, o + i * 2, none⟩ = some (.int .i64 k) := by rw [below_cell hb hg]; exact h1
      have c2 : wr.cell? ⟨g, o + i * 2 + 1, none⟩ = some (.int .u8 s) := by rw [below_cell hb hg]; exact h2
      obtain ⟨hk1, hk9⟩ := good_kind hgood
      simp only at hk1 hk9
      obtain ⟨j, rfl⟩ : ∃ j : Nat, k = j := ⟨k.toNat, by omega⟩
      have hj9 : j < 10 := by omega
      have hjI : (j : Int) < 10 := by omega
      have hcp := HP.out.below hb HP.out.pos j hj9
      have hw0 : 1 < wr.heap.size := Nat.lt_of_lt_of_le HP.out.pos hb.size
      have hcp2 : ∀ O, (wr.alloc O).cell? ⟨1, j, none⟩ = some (.int .i64 (arity (j : Int) : Nat)) := fun O => by rw [below_cell ((Below.refl wr.heap.size wr).alloc (Nat.le_refl _) O) hw0]; exact hcp
      have HNX : Hid (heavyN (fun _ => 1) (ts.take (i + 1)) = F.take (F.length - arity (j : Int)) ++ [(F.drop (F.length - arity (j : Int))).foldl max 0 + 1] ∧ freeN (ts.take (i + 1)) = some (F.length - arity (j : Int) + 1)) := ⟨hst2, hnext⟩
      have HBD : Hid (∀ x ∈ heavyN (fun _ => 1) (ts.take (i + 1)), x ≤ i + 1) := by
        show ∀ x ∈ _, _
        rw [hst2]
        exact hpush_le (Nat.le_refl _) hbd
      have HBF : Hid (∀ x ∈ F, x ≤ i) := hbd
      have hfl := free_le ts i hile _ hfc
      obtain ⟨r, hrd⟩ : ∃ r, arity (j : Int) = r := ⟨_, rfl⟩
      rw [hrd] at hcp2 HNX har
      obtain ⟨p, hp⟩ : ∃ p, F.length - r = p := ⟨_, rfl⟩
      have hpI : (F.length : Int) - (r : Int) = p := by omega
      have hpl : (p : Int) ≤ F.length := by omega
      rw [hp] at HNX
      obtain ⟨fa, fc, rfl⟩ := own_shape hown
      have HOW : Hid (wr.ownsRow w.heap.size 3 1 (.slice fa F.length fc) F.length (nC F)) := hown
      have HB : Hid (Below w.heap.size w wr) := hb
      have hfc0 : F.length ≤ fc := by
        obtain ⟨_, h⟩ := hown
        rcases h with ⟨h, h'⟩ | ⟨g', cp, cur, h, _, _, hcp, _⟩
        · omega
        · simp at h; omega
      have hfcI : (F.length : Int) ≤ fc := by omega
      have hpc : (p : Int) ≤ fc := by omega
      clear hst hst2 hnext hgood hn h1 h2 hcp hfc hc' hbd hown hb hF
      by_cases hr0 : r = 0
      · obtain rfl : p = F.length := by omega
        subst hr0
        have HE : Hid (heavyN (fun _ => 1) (ts.take (i + 1)) = F.take F.length ++ [1]) := by
          show _ = _
          rw [HNX.out.1]
          simp
        by_cases hfe : fc = F.length
        · subst hfe
          go_wp2_with fail
          refine wp_loop_rounds 1 ?_
          rw [rounds_succ]
          go_wp2_with fail
          have HOC : Hid ((wr.alloc (.cells #[.int .i64 (j : Int), .int .u8 s] 55)).ownsRow w.heap.size 3 1 (.slice fa F.length F.length) F.length (nC (F.take F.length))) := own_cut (HOW.out.alloc _) F.length (by omega)
          have HLO : Hid (∀ k, (Value.slice fa F.length F.length).ownBlock = some k → w.heap.size ≤ k ∧ k < wr.heap.size) := fun k hk => by
            have := HOW.out.lt k (by cases fa <;> simp_all [Value.ownBlock])
            exact this
          have S0 : QS w wr.heap.size #[.int .i64 (j : Int), .int .u8 s] (wr.alloc (.cells #[.int .i64 (j : Int), .int .u8 s] 55)).drew := ⟨(RowAt.last wr #[.int .i64 (j : Int), .int .u8 s] 55).cell, by simp, (HB.out.alloc HB.out.size _).drew⟩
          generalize hWg : wr.alloc (.cells #[.int .i64 (j : Int), .int .u8 s] 55) = W at HOC S0 ⊢
          clear hWg
          go_region_held3 (fun w' => QS w wr.heap.size #[.int .i64 (j : Int), .int .u8 s] w') (first | exact S0 | assumption | exact qs_step (by assumption) (by assumption) | exact qs_alloc _ (by assumption) | exact qs_grown (by assumption) (by assumption) HLO.out) (first
            | (go_at_call 57; refine (depth1_any ((j : Int), s) _).mono ?_; rintro e y1 ⟨rfl, hy1⟩)
            | (rw [if_pos (by rfl)]; refine wp_append_own _ _ _ 102 rfl w.heap.size 3 i0 (.int .i64 0) 1 8 Tryd.underlying102 hi hz0 hz1 hz2 rfl (by decide) _ _ _ rfl ((own_below (own_drew HOC.out) hy1).alloc _) ⟨y1.heap.size, 0, none⟩ 1 1 [.int .i64 1] rfl rfl (cell_one_new _ _ _) (by intro u hu; simp at hu; subst hu; rfl) (by unfold maxLen; omega) (by omega) (by have := S0.2.2.size; have := hy1.size; simp at *; omega) ?_; intro v9 w9 ho9 hg9 _))
          all_goals go_wp2_with fail
          all_goals go_roundw
          case rel =>
            have hq : QS w wr.heap.size #[.int .i64 (j : Int), .int .u8 s] w9 := by assumption
            refine ⟨i + 1, by omega, by go_num, ?_, by rw [HNX.out.2, HE.out]; simp <;> omega, HBD.out, hq.2.2⟩
            rw [HE.out, nC_append]
            have hl9 : (F.take F.length ++ [1]).length = F.length + 1 := by simp <;> omega
            rw [hl9]
            exact ho9
          case measure => simp [intOf]; omega
        · have hfe2 : (F.length : Int) < fc := by omega
          go_wp2_with fail
          refine wp_loop_rounds 1 ?_
          rw [rounds_succ]
          go_wp2_with fail
          have HOC : Hid ((wr.alloc (.cells #[.int .i64 (j : Int), .int .u8 s] 55)).ownsRow w.heap.size 3 1 (.slice fa F.length fc) F.length (nC (F.take F.length))) := own_cut (HOW.out.alloc _) F.length (by omega)
          have HLO : Hid (∀ k, (Value.slice fa F.length fc).ownBlock = some k → w.heap.size ≤ k ∧ k < wr.heap.size) := fun k hk => by
            have := HOW.out.lt k (by cases fa <;> simp_all [Value.ownBlock])
            exact this
          have S0 : QS w wr.heap.size #[.int .i64 (j : Int), .int .u8 s] (wr.alloc (.cells #[.int .i64 (j : Int), .int .u8 s] 55)).drew := ⟨(RowAt.last wr #[.int .i64 (j : Int), .int .u8 s] 55).cell, by simp, (HB.out.alloc HB.out.size _).drew⟩
          generalize hWg : wr.alloc (.cells #[.int .i64 (j : Int), .int .u8 s] 55) = W at HOC S0 ⊢
          clear hWg
          go_region_held3 (fun w' => QS w wr.heap.size #[.int .i64 (j : Int), .int .u8 s] w') (first | exact S0 | assumption | exact qs_step (by assumption) (by assumption) | exact qs_alloc _ (by assumption) | exact qs_grown (by assumption) (by assumption) HLO.out) (first
            | (go_at_call 57; refine (depth1_any ((j : Int), s) _).mono ?_; rintro e y1 ⟨rfl, hy1⟩)
            | (rw [if_pos (by rfl)]; refine wp_append_own _ _ _ 102 rfl w.heap.size 3 i0 (.int .i64 0) 1 8 Tryd.underlying102 hi hz0 hz1 hz2 rfl (by decide) _ _ _ rfl ((own_below (own_drew HOC.out) hy1).alloc _) ⟨y1.heap.size, 0, none⟩ 1 1 [.int .i64 1] rfl rfl (cell_one_new _ _ _) (by intro u hu; simp at hu; subst hu; rfl) (by unfold maxLen; omega) (by omega) (by have := S0.2.2.size; have := hy1.size; simp at *; omega) ?_; intro v9 w9 ho9 hg9 _))
          all_goals go_wp2_with fail
          all_goals go_roundw
          case rel =>
            have hq : QS w wr.heap.size #[.int .i64 (j : Int), .int .u8 s] w9 := by assumption
            refine ⟨i + 1, by omega, by go_num, ?_, by rw [HNX.out.2, HE.out]; simp <;> omega, HBD.out, hq.2.2⟩
            rw [HE.out, nC_append]
            have hl9 : (F.take F.length ++ [1]).length = F.length + 1 := by simp <;> omega
            rw [hl9]
            exact ho9
          case measure => simp [intOf]; omega
      · have hpF : p < F.length := by omega
        have hpc2 : (p : Int) < fc := by omega
        obtain ⟨fg, rfl, hfgl, hfgb, _⟩ := own_ncell HOW.out p hpF
        obtain ⟨q, hq⟩ : ∃ q, (F.drop p).foldl max 0 = q := ⟨_, rfl⟩
        have hqi : q ≤ i := by
          rw [← hq]
          exact fold_le (m := i) (F.drop p) 0 (by omega) (fun y hy => HBF.out y (List.mem_of_mem_drop hy))
        have HE : Hid (heavyN (fun _ => 1) (ts.take (i + 1)) = F.take p ++ [q + 1]) := by
          show _ = _
          rw [HNX.out.1, hq]
        have HQ : Hid ((F.drop p).foldl max 0 = q) := hq
        have hqw : IntKind.i64.wrap ((q : Int) + 1) = ((q + 1 : Nat) : Int) := by rw [IntKind.wrap_i64]; omega
        clear hq
        have HFC : Hid (∀ t, t < F.length - p → (wr.alloc (.cells #[.int .i64 (j : Int), .int .u8 s] 55)).cell? ⟨fg, p + t, none⟩ = some (.int .i64 (((F.drop p).getD t 0 : Nat) : Int))) := fun t ht => by
          obtain ⟨g', e', _, _, hc⟩ := own_ncell (HOW.out.alloc (.cells #[.int .i64 (j : Int), .int .u8 s] 55)) (p + t) (by omega)
          cases e'
          rw [hc]
          simp [List.getD_eq_getElem?_getD, List.getElem?_drop]
        have HFL : Hid (∀ t, t < F.length - p → (F.drop p).getD t 0 ≤ i) := fun t ht => by
          refine HBF.out _ (List.mem_of_mem_drop (i := p) ?_)
          rw [List.getD_eq_getElem?_getD, List.getElem?_eq_getElem (by simp; omega)]
          exact List.getElem_mem _
        have HFd : Hid ((F.drop p).length = F.length - p) := by show _ = _; simp
        go_wp2_with fail
        go_loop [11, 13, 36] (fun vm _ vt => ∃ t : Nat, t ≤ F.length - p ∧ vt = .int .i64 t ∧ vm = .int .i64 ((((F.drop p).take t).foldl max 0 : Nat) : Int)) (fun _ _ vt => (F.length - p) - (intOf vt).toNat)
        case atStart => exact ⟨0, Nat.zero_le _, rfl, rfl⟩
        case round =>
          obtain ⟨t, htl, rfl, rfl⟩ := hrel
          by_cases ht : t < F.length - p
          · have htI : (t : Int) < ((F.length - p : Nat) : Int) := by omega
            have hcell := HFC.out t ht
            have hmax := fold_take (F.drop p) t (by rw [HFd.out]; omega)
            have hle1 := HFL.out t ht
            obtain ⟨x, hx⟩ : ∃ x, (F.drop p).getD t 0 = x := ⟨_, rfl⟩
            obtain ⟨y, hy⟩ : ∃ y, ((F.drop p).take t).foldl max 0 = y := ⟨_, rfl⟩
            rw [hx] at hcell hmax hle1
            rw [hy] at hmax
            rw [hy]
            have HM : Hid (((F.drop p).take (t + 1)).foldl max 0 = max y x) := hmax
            clear hmax hx hy
            go_wp2_with fail
            go_round
            case rel => exact ⟨t + 1, by omega, by go_num, by rw [HM.out]; congr 1; split <;> omega⟩
            case measure => simp [intOf]; omega
          · have htI : ¬ (t : Int) < ((F.length - p : Nat) : Int) := by omega
            obtain rfl : t = F.length - p := by omega
            rw [List.take_of_length_le (by rw [HFd.out]; omega), HQ.out]
            clear ht
            go_wp2_with fail
            have HOC : Hid ((wr.alloc (.cells #[.int .i64 (j : Int), .int .u8 s] 55)).ownsRow w.heap.size 3 1 (.slice (some ⟨fg, 0, none⟩) p fc) p (nC (F.take p))) := own_cut (HOW.out.alloc _) p (by omega)
            have HLO : Hid (∀ k, (Value.slice (some ⟨fg, 0, none⟩) p fc).ownBlock = some k → w.heap.size ≤ k ∧ k < wr.heap.size) := fun k hk => by
              have := HOW.out.lt k (by simpa [Value.ownBlock] using hk)
              exact this
            have S0 : QS w wr.heap.size #[.int .i64 (j : Int), .int .u8 s] (wr.alloc (.cells #[.int .i64 (j : Int), .int .u8 s] 55)).drew := ⟨(RowAt.last wr #[.int .i64 (j : Int), .int .u8 s] 55).cell, by simp, (HB.out.alloc HB.out.size _).drew⟩
            generalize hWg : wr.alloc (.cells #[.int .i64 (j : Int), .int .u8 s] 55) = W at HOC S0 ⊢
            clear hWg
            go_region_held3 (fun w' => QS w wr.heap.size #[.int .i64 (j : Int), .int .u8 s] w') (first | exact S0 | assumption | exact qs_step (by assumption) (by assumption) | exact qs_alloc _ (by assumption) | exact qs_grown (by assumption) (by assumption) HLO.out) (first
              | (go_at_call 57; refine (depth1_any ((j : Int), s) _).mono ?_; rintro e y1 ⟨rfl, hy1⟩)
              | (rw [if_pos (by rfl)]; refine wp_append_own _ _ _ 102 rfl w.heap.size 3 i0 (.int .i64 0) 1 8 Tryd.underlying102 hi hz0 hz1 hz2 rfl (by decide) _ _ _ rfl ((own_below (own_drew HOC.out) hy1).alloc _) ⟨y1.heap.size, 0, none⟩ 1 1 [.int .i64 ((q + 1 : Nat) : Int)] rfl rfl (cell_one_new _ _ _) (by intro u hu; simp at hu; subst hu; rfl) (by unfold maxLen; omega) (by omega) (by have := S0.2.2.size; have := hy1.size; simp at *; omega) ?_; intro v9 w9 ho9 hg9 _))
            all_goals go_wp2_with fail
            all_goals go_roundw
            case rel =>
              have hq : QS w wr.heap.size #[.int .i64 (j : Int), .int .u8 s] w9 := by assumption
              refine ⟨i + 1, by omega, by go_num, ?_, by rw [HNX.out.2, HE.out]; simp <;> omega, HBD.out, hq.2.2⟩
              rw [HE.out, nC_append]
              have hl9 : (F.take p ++ [q + 1]).length = p + 1 := by simp <;> omega
              rw [hl9]
              exact ho9
            case measure => simp [intOf]; omega
    · have hiI : ¬ (i : Int) < ts.length := by omega
      obtain rfl : i = ts.length := by omega
      rw [List.take_length] at hown hfc hbd
      rw [HF.out] at hfc
      have hl1 : (heavyN (fun _ => 1) ts).length = 1 := by simpa using hfc.symm
      obtain ⟨fa, fc, rfl⟩ := own_shape hown
      obtain ⟨fg, rfl, _, _, hc0⟩ := own_ncell hown 0 (by omega)
      rw [hl1]
      have HB : Hid (Below w.heap.size w wr) := hb
      clear hown hfc hbd hst hlt hb
      go_wp2_with fail
      go_ret2
      exact ⟨rfl, HB.out⟩

end Go.Proofs.YtfdkkiecibdblaaDoor
