/- equal: join, parted. -/
import Derived.Test.YtceoceecgekkjaaIc
import Derived.Deep.RegionHeld3
import Derived.Laws.EntriesVeiled
namespace Go.Proofs.Ytceoceecgekkjaa
open Go Go.RowKit Go.Lib
set_option linter.unusedVariables false

/-- What join answers and leaves. -/
def EJQ (ab g tb jb xb N : Nat) (xa : Array Value) (r : Nat → Nat) (s t : Nat) (w : World) (x : Ending) (w' : World) : Prop := x = .returned (.bool (decide (r s ≠ r t))) ∧ ∃ f' e', UF N f' (if r s = r t then r else jn r s t) e' ∧ TX ab g tb jb xb N xa (nC f') w' ∧ OT g w w'
def EJS (ab g tb jb xb N : Nat) (xa : Array Value) (r e : Nat → Nat) (w y : World) : Prop := ∃ f', UF N f' r e ∧ TX ab g tb jb xb N xa (nC f') y ∧ OT g w y

set_option maxHeartbeats 4000000 in
set_option maxRecDepth 100000 in
theorem ejoin_any (ab g tb jb xb N : Nat) (hN : N ≤ 8192) (xa : Array Value) (f : List Nat) (r e : Nat → Nat) (U : UF N f r e) (s t : Nat) (hs : s < N) (ht : t < N) (w : World) (h : TX ab g tb jb xb N xa (nC f) w) :
    Calls Try.prog 69 #[.int .i64 s, .int .i64 t, .pointer (some ⟨tb, 0, none⟩), .pointer (some ⟨ab, 0, none⟩)] w (EJQ ab g tb jb xb N xa r s t w) := by
  have HE0 : Hid (EJS ab g tb jb xb N xa r e w w) := ⟨f, U, h, OT.refl _ _⟩
  have HTP : Hid (∀ y, EJS ab g tb jb xb N xa r e w y → ∀ p, p < N → Calls Try.prog 68 #[.int .i64 p, .pointer (some ⟨ab, 0, none⟩)] y fun x w' => x = .returned (.int .i64 (r p)) ∧ EJS ab g tb jb xb N xa r e w w') := fun y hy p hp => by
    obtain ⟨f', u', t', o'⟩ := hy
    refine (etop_any ab g N hN f' r e u' p hp y t'.a t'.row).mono ?_
    rintro x w' ⟨rfl, f2, u2, r2, o2⟩
    exact ⟨rfl, f2, u2, t'.set o2 r2, o'.trans o2⟩
  have HFC : Hid (∀ y, EJS ab g tb jb xb N xa r e w y → y.cell? ⟨tb, 0, none⟩ = some (.func (.func 68) #[] #[.pointer (some ⟨ab, 0, none⟩)])) := fun y hy => by obtain ⟨f', u', t', o'⟩ := hy; exact cell_of t'.t
  have hr1 := (U.root hs).1
  have hr2 := (U.root ht).1
  have HU : Hid (UF N f r e) := U
  clear U h
  have S0 : w.drew.cell? ⟨tb, 0, none⟩ = some (.func (.func 68) #[] #[.pointer (some ⟨ab, 0, none⟩)]) ∧ EJS ab g tb jb xb N xa r e w w.drew := ⟨HFC.out w HE0.out, by obtain ⟨f', u', t', o'⟩ := HE0.out; exact ⟨f', u', t'.keep (fun _ _ => rfl), ⟨rfl, rfl, rfl, Nat.le_refl _, fun _ _ _ => rfl⟩⟩⟩
  go_enter Try.func69, Try.ntmps69
  go_wp2_with fail
  go_region_held3 (fun y => y.cell? ⟨tb, 0, none⟩ = some (.func (.func 68) #[] #[.pointer (some ⟨ab, 0, none⟩)]) ∧ EJS ab g tb jb xb N xa r e w y) (first | exact S0 | assumption | exact ⟨HFC.out _ (by assumption), by assumption⟩) (first
    | (go_at_call_of 68 (Value.int IntKind.i64 (s : Int)); refine (HTP.out _ (And.right (by assumption)) s hs).mono ?_; rintro x y1 ⟨rfl, hy1⟩)
    | (go_at_call_of 68 (Value.int IntKind.i64 (t : Int)); refine (HTP.out _ (And.right (by assumption)) t ht).mono ?_; rintro x y2 ⟨rfl, hy2⟩))
  all_goals (
    rename_i S9
    obtain ⟨f2, u2, t2, o2⟩ := S9.2
    have HU2 : Hid (UF N f2 r e) := u2
    have HT2 : Hid (TX ab g tb jb xb N xa (nC f2) _) := t2
    have HO2 : Hid (OT g w _) := o2
    obtain ⟨p, hp⟩ : ∃ p, r s = p := ⟨_, rfl⟩
    obtain ⟨q, hq⟩ : ∃ q, r t = q := ⟨_, rfl⟩
    have HPE : Hid (r s = p ∧ r t = q) := ⟨hp, hq⟩
    rw [hp] at hr1
    rw [hq] at hr2
    rw [show (r s : Nat) = p from hp, show (r t : Nat) = q from hq]
    have hpI : (p : Int) < N := by omega
    have ca := cell_of (j := 0) t2.a
    have hfz := t2.row.frozenAt p
    have hfl := u2.len
    obtain ⟨z, hz⟩ : ∃ z, f2.getD p 0 = z := ⟨_, rfl⟩
    have hcl := (t2.row.cellAt p (by omega)).trans (nC_get (by omega))
    rw [hz] at hcl
    have hst := (t2.row.stored p (.int .i64 (q : Int))).1
    rw [← nC_set] at hst
    have hO3 := o2.set p (.int .i64 (q : Int))
    have hT3 := t2.set ((OT.refl g _).set p (.int .i64 (q : Int))) hst
    have HT3 : Hid _ := hT3
    have HO3 : Hid _ := hO3
    by_cases hpq : p = q
    · have HU3 : Hid (UF N (f2.set p q) r e) := by
        show UF _ _ _ _
        rw [← hpq, ← hp, HU2.out.stay hs]
        exact HU2.out
      have HPQ : Hid (decide (r s ≠ r t) = false) := by show _ = _; rw [hp, hq]; simpa using hpq
      have HRR : Hid (r s = r t) := by show _ = _; rw [hp, hq]; exact hpq
      clear hst u2 t2 o2 hz hp hq hfl hT3 hO3 S9 S0
      subst hpq
      go_wp2_with fail
      go_ret
      exact ⟨by rw [HPQ.out]; rfl, _, e, by rw [if_pos HRR.out]; exact HU3.out, HT3.out, HO3.out⟩
    · have HU3 : Hid (∃ e', UF N (f2.set p q) (jn r s t) e') := by
        have := HU2.out.link hs ht (by rw [hp, hq]; exact hpq)
        rw [hp, hq] at this
        exact this
      have HPQ : Hid (decide (r s ≠ r t) = true) := by show _ = _; rw [hp, hq]; simpa using hpq
      have HRR : Hid (¬ r s = r t) := by show ¬ _; rw [hp, hq]; exact hpq
      have hI : ¬ (p : Int) = q := by omega
      have hd : decide ((p : Int) = q) = false := decide_eq_false hI
      have hbn : ((p : Int) != (q : Int)) = true := by simpa using hI
      clear hst u2 t2 o2 hpq hz hp hq hfl hT3 hO3 S9 S0
      go_wp2_with fail
      go_ret
      obtain ⟨e', he⟩ := HU3.out
      exact ⟨by rw [HPQ.out]; rfl, _, e', by rw [if_neg HRR.out]; exact he, HT3.out, HO3.out⟩)

/-- The roots behind the pairs P; the second automaton's states behind the first one's n. -/
def rP (n : Nat) (P : List (Nat × Nat)) : Nat → Nat := P.foldl (fun r p => jn r p.1 (n + p.2)) (fun x => x)
theorem rP_snoc (n : Nat) (P : List (Nat × Nat)) (p : Nat × Nat) : rP n (P ++ [p]) = jn (rP n P) p.1 (n + p.2) := by unfold rP; rw [List.foldl_append]; rfl
def dP (n : Nat) (P : List (Nat × Nat)) (p : Nat × Nat) : Bool := decide (rP n P p.1 ≠ rP n P (n + p.2))
/-- What stands between two calls. -/
def FP (ab g tb jb xb N n : Nat) (xa : Array Value) (P : List (Nat × Nat)) (O : Nat → Prop) (w : World) : Prop := ∃ f e, UF N f (rP n P) e ∧ TX ab g tb jb xb N xa (nC f) w ∧ O = TO ab g tb jb xb
def PaQ (ab g tb jb xb N n : Nat) (xa : Array Value) (P : List (Nat × Nat)) (O : Nat → Prop) (x y : Nat) (w : World) (e : Ending) (w' : World) : Prop := e = .returned (.bool (dP n P (x, y))) ∧ ∃ O', FP ab g tb jb xb N n xa (if dP n P (x, y) then P ++ [(x, y)] else P) O' w' ∧ FK O O' w w'

set_option maxHeartbeats 4000000 in
set_option maxRecDepth 100000 in
theorem parted1_any (ab g tb jb xb n m : Nat) (hn : n ≤ 4096) (hm : m ≤ 4096) (k an cn aa ca : Value) (xl : Nat) (sa : Option Addr) (sc : Nat) (P : List (Nat × Nat)) (O : Nat → Prop) (w : World) (h : FP ab g tb jb xb (n + m) n #[k, an, .slice sa n sc] P O w) (x y : Nat) (hx : x < n) (hy : y < m) :
    Calls Try.prog 57 #[peV x y, .pointer (some ⟨jb, 0, none⟩), .pointer (some ⟨xb, 0, none⟩)] w (PaQ ab g tb jb xb (n + m) n #[k, an, .slice sa n sc] P O x y w) := by
  obtain ⟨f, e, U, hX, rfl⟩ := h
  have hX1 := hX.below (below_new w (.cells #[.int .u16 (x : Int), .int .u16 (y : Int)] 77))
  obtain ⟨w1, hw1⟩ : ∃ w1, w1 = w.alloc (.cells #[.int .u16 (x : Int), .int .u16 (y : Int)] 77) := ⟨_, rfl⟩
  have HW1 : Hid (w1 = w.alloc (.cells #[.int .u16 (x : Int), .int .u16 (y : Int)] 77)) := hw1
  have cj : (w.alloc (.cells #[.int .u16 (x : Int), .int .u16 (y : Int)] 77)).cell? ⟨jb, 0, none⟩ = some (.func (.func 69) #[] #[.pointer (some ⟨tb, 0, none⟩), .pointer (some ⟨ab, 0, none⟩)]) := cell_of hX1.j
  have cx : ∀ o, (w.alloc (.cells #[.int .u16 (x : Int), .int .u16 (y : Int)] 77)).cell? ⟨xb, o, none⟩ = (#[k, an, .slice sa n sc] : Array Value)[o]? := fun o => cell_of hX1.x
  obtain ⟨t, hte⟩ : ∃ t, n + y = t := ⟨_, rfl⟩
  have hw : IntKind.i64.wrap ((n : Int) + (y : Int)) = (t : Int) := by rw [IntKind.wrap_i64]; omega
  have hx16 : IntKind.i64.wrap (x : Int) = (x : Int) := by rw [IntKind.wrap_i64]; omega
  have hy16 : IntKind.i64.wrap (y : Int) = (y : Int) := by rw [IntKind.wrap_i64]; omega
  have HJ : Hid (Calls Try.prog 69 #[.int .i64 x, .int .i64 t, .pointer (some ⟨tb, 0, none⟩), .pointer (some ⟨ab, 0, none⟩)] (w.alloc (.cells #[.int .u16 (x : Int), .int .u16 (y : Int)] 77)) (EJQ ab g tb jb xb (n + m) #[k, an, .slice sa n sc] (rP n P) x t (w.alloc (.cells #[.int .u16 (x : Int), .int .u16 (y : Int)] 77)))) := ejoin_any ab g tb jb xb (n + m) (by omega) _ f (rP n P) e U x t (by omega) (by omega) _ hX1
  have HGL : Hid (g < w.heap.size) := hX.glt
  have HTE : Hid (n + y = t) := hte
  clear U hX hX1 hte hw1
  go_enter Try.func57, Try.ntmps57
  go_wp2_with (first
    | (go_at_call 69; refine HJ.out.mono ?_; rintro x9 w9 ⟨rfl, f9, e9, u9, t9, o9⟩; have HU9 : Hid _ := u9; have HT9 : Hid _ := t9; have HO9 : Hid _ := o9; clear u9 t9 o9))
  go_ret
  refine ⟨?_, TO ab g tb jb xb, ⟨f9, e9, ?_, HT9.out, rfl⟩, ⟨HO9.out.os, HO9.out.tape, HO9.out.output, ?_, fun b hb hO => ?_, fun b hb => .inl hb⟩⟩
  · unfold dP
    show _ = Ending.returned (.bool (decide (rP n P x ≠ rP n P (n + y))))
    rw [HTE.out, show decide (rP n P x ≠ rP n P t) = !decide (rP n P x = rP n P t) by simp]; rfl
  · have := HU9.out
    have e1 : (if dP n P (x, y) then P ++ [(x, y)] else P) = (if rP n P x = rP n P t then P else P ++ [(x, y)]) := by
      unfold dP
      rw [← HTE.out]
      by_cases q : rP n P x = rP n P (n + y) <;> simp [q]
    rw [e1]
    by_cases q : rP n P x = rP n P t
    · rw [if_pos q] at this ⊢; exact this
    · rw [if_neg q] at this ⊢
      rw [rP_snoc]
      show UF _ _ (jn (rP n P) x (n + y)) _
      rw [HTE.out]; exact this
  · have := HO9.out.size; simp at this; omega
  · rw [HO9.out.block b (by simp; omega) (fun e => hO (.inr (.inl e)))]
    exact (below_new _ _).block b hb

set_option maxHeartbeats 4000000 in
set_option maxRecDepth 100000 in
theorem trees_any (n : Nat) (hn : n ≤ 8192) (w : World) :
    Calls Try.prog 56 #[.int .i64 n] w fun e w' => ∃ ab g tb, e = .returned (.func (.func 69) #[] #[.pointer (some ⟨tb, 0, none⟩), .pointer (some ⟨ab, 0, none⟩)]) ∧ w'.heap[ab]? = some (.cells #[.slice (some ⟨g, 0, none⟩) n n] 22 (0, 0)) ∧ w'.ownsRow w.heap.size 3 1 (.slice (some ⟨g, 0, none⟩) n n) n (nC (List.range n)) ∧ w'.heap[tb]? = some (.cells #[(.func (.func 68) #[] #[.pointer (some ⟨ab, 0, none⟩)])] 62 (0, 0)) ∧ w.heap.size ≤ ab ∧ w.heap.size ≤ tb ∧ Below w.heap.size w w' := by
  obtain ⟨i0, hi, hz0, hz1, hz2⟩ := info_parts Try.info_int
  have hmk := fun w0 => run_make (P := Try.prog) w0 22 3 i0 (.int .i64 0) Try.underlying22 hi hz0 .i64 .i64 (n : Int) (n : Int) (by omega) (by omega) (by rw [hz2]; omega) (by omega)
  rw [hz1] at hmk
  simp only [Nat.mul_one] at hmk
  obtain ⟨w1, hw1⟩ : ∃ w1, w1 = (w.alloc (.cells (madeCells #[.int .i64 0] n) 3)).alloc (.cells #[.slice (some ⟨w.heap.size, 0, none⟩) n n] 22) := ⟨_, rfl⟩
  have HW1 : Hid (w1 = (w.alloc (.cells (madeCells #[.int .i64 0] n) 3)).alloc (.cells #[.slice (some ⟨w.heap.size, 0, none⟩) n n] 22)) := hw1
  have HO0 : Hid (w1.ownsRow w.heap.size 3 1 (.slice (some ⟨w.heap.size, 0, none⟩) n n) n (nC (filN id n 0)) ∧ w1.heap[w.heap.size + 1]? = some (.cells #[.slice (some ⟨w.heap.size, 0, none⟩) n n] 22 (0, 0)) ∧ Below w.heap.size w w1) := by
    show _ ∧ _
    rw [hw1]
    have := heap_alloc_last (w.alloc (.cells (madeCells #[.int .i64 0] n) 3)) (.cells #[.slice (some ⟨w.heap.size, 0, none⟩) n n] 22)
    rw [World.size_alloc] at this
    exact ⟨(made_row w id (by omega) (Nat.le_refl _)).alloc _, this, go_on (below_new _ _) (below_new _ _)⟩
  have ca : ((w.alloc (.cells (madeCells #[.int .i64 0] n) 3)).alloc (.cells #[.slice (some ⟨w.heap.size, 0, none⟩) n n] 22)).cell? ⟨w.heap.size + 1, 0, none⟩ = some (.slice (some ⟨w.heap.size, 0, none⟩) n n) := by rw [← hw1]; exact cell_of HO0.out.2.1
  clear hw1
  go_enter Try.func56, Try.ntmps56
  go_wp2_with fail
  rw [← HW1.out]
  clear hmk ca
  go_loopw [10, 4] (fun vi _ wr => ∃ i : Nat, vi = .int .i64 i ∧ i ≤ n ∧ wr.ownsRow w.heap.size 3 1 (.slice (some ⟨w.heap.size, 0, none⟩) n n) n (nC (filN id n i)) ∧ wr.heap[w.heap.size + 1]? = some (.cells #[.slice (some ⟨w.heap.size, 0, none⟩) n n] 22 (0, 0)) ∧ Below w.heap.size w wr) (fun vi _ _ => n - (intOf vi).toNat)
  case atStart => exact ⟨0, rfl, Nat.zero_le _, HO0.out⟩
  case round =>
    clear HO0
    obtain ⟨i, rfl, hin, hO, hA, hB⟩ := hrel
    by_cases hlt : i < n
    · have hiI : (i : Int) < n := by omega
      have ca : wr.cell? ⟨w.heap.size + 1, 0, none⟩ = some (.slice (some ⟨w.heap.size, 0, none⟩) n n) := cell_of hA
      have hfz : wr.frozen? ⟨w.heap.size, i, none⟩ = false := hO.frozenAt i
      have hcl : wr.cell? ⟨w.heap.size, i, none⟩ = some (.int .i64 0) := (hO.cellAt i (by omega)).trans (filN_cell id hlt)
      have hst := (hO.stored i (.int .i64 ((id i : Nat) : Int))).1
      rw [← nC_set, filN_set id hlt] at hst
      have HN : Hid ((wr.setCell ⟨w.heap.size, i, none⟩ (.int .i64 (i : Int))).ownsRow w.heap.size 3 1 (.slice (some ⟨w.heap.size, 0, none⟩) n n) n (nC (filN id n (i + 1)))) := hst
      have HN2 : Hid (Below w.heap.size w (wr.setCell ⟨w.heap.size, i, none⟩ (.int .i64 (i : Int)))) := hB.setCell (p := ⟨w.heap.size, i, none⟩) (Nat.le_refl _) _
      have HN3 : Hid ((wr.setCell ⟨w.heap.size, i, none⟩ (.int .i64 (i : Int))).heap[w.heap.size + 1]? = some (.cells #[.slice (some ⟨w.heap.size, 0, none⟩) n n] 22 (0, 0))) := by show (wr.setCell ⟨w.heap.size, i, none⟩ (.int .i64 (i : Int))).heap[w.heap.size + 1]? = _; rw [heap_set_other (by omega)]; exact hA
      clear hst hO hB hA
      go_wp2_with fail
      go_roundw
      case rel => exact ⟨i + 1, by go_num, by omega, HN.out, HN3.out, HN2.out⟩
      case measure => simp [intOf]; omega
    · have hiI : ¬ (i : Int) < n := by omega
      have e : i = n := by omega
      rw [e, filN_end] at hO
      have e2 : (List.range n).map id = List.range n := List.map_id _
      rw [e2] at hO
      have HO : Hid (wr.ownsRow w.heap.size 3 1 (.slice (some ⟨w.heap.size, 0, none⟩) n n) n (nC (List.range n))) := hO
      have HB : Hid (Below w.heap.size w wr) := hB
      have HA : Hid (wr.heap[w.heap.size + 1]? = some (.cells #[.slice (some ⟨w.heap.size, 0, none⟩) n n] 22 (0, 0))) := hA
      clear hO hB e e2 hA
      go_wp2_with fail
      go_ret
      refine ⟨w.heap.size + 1, w.heap.size, wr.heap.size, rfl, ((below_new _ _).block _ (Array.getElem?_eq_some_iff.1 HA.out).1).trans HA.out, HO.out.alloc _, heap_alloc_last _ _, by omega, HB.out.size, go_on HB.out (below_new _ _)⟩

set_option maxHeartbeats 4000000 in
set_option maxRecDepth 100000 in
theorem parted_any (va vb : Value) (A B : Aut) (w : World) (ha : AR w va A) (hb : AR w vb B) (hn : A.ac.length ≤ 4096) (hm : B.ac.length ≤ 4096) :
    Calls Try.prog 37 #[va, vb] w fun e w' => ∃ ab g tb jb xb O k an sa sc, e = .returned (.func (.func 57) #[] #[.pointer (some ⟨jb, 0, none⟩), .pointer (some ⟨xb, 0, none⟩)]) ∧ FP ab g tb jb xb (A.ac.length + B.ac.length) A.ac.length #[k, an, .slice sa A.ac.length sc] [] O w' ∧ (∀ b, O b → w.heap.size ≤ b) ∧ Below w.heap.size w w' := by
  obtain ⟨an, cn, aa, ca, rfl, _, _⟩ := ha.is
  obtain ⟨bn, dn, ba, da, rfl, _, _⟩ := hb.is
  clear ha hb
  obtain ⟨N, hN⟩ : ∃ N, A.ac.length + B.ac.length = N := ⟨_, rfl⟩
  have hw : IntKind.i64.wrap ((A.ac.length : Int) + (B.ac.length : Int)) = (N : Int) := by rw [IntKind.wrap_i64]; omega
  have HNE : Hid (A.ac.length + B.ac.length = N) := hN
  have hN8 : N ≤ 8192 := by omega
  clear hN
  obtain ⟨V, hV⟩ : ∃ V, V = (w.alloc (.cells #[.int .i64 A.k, .slice an A.nx.length cn, .slice aa A.ac.length ca] 25)).alloc (.cells #[.int .i64 B.k, .slice bn B.nx.length dn, .slice ba B.ac.length da] 25) := ⟨_, rfl⟩
  have HVE : Hid (V = (w.alloc (.cells #[.int .i64 A.k, .slice an A.nx.length cn, .slice aa A.ac.length ca] 25)).alloc (.cells #[.int .i64 B.k, .slice bn B.nx.length dn, .slice ba B.ac.length da] 25)) := hV
  have HBV : Hid (Below w.heap.size w V) := by show Below _ _ _; rw [hV]; exact go_on (below_new _ _) (below_new _ _)
  have HXB : Hid (V.heap[w.heap.size]? = some (.cells #[.int .i64 A.k, .slice an A.nx.length cn, .slice aa A.ac.length ca] 25 (0, 0))) := by
    show V.heap[w.heap.size]? = _
    rw [hV]
    exact ((below_new _ _).block _ (by simp)).trans (heap_alloc_last _ _)
  clear hV
  go_enter Try.func37, Try.ntmps37
  go_wp2_with fail
  rw [← HVE.out]
  refine (trees_any N hN8 V).mono ?_
  rintro e w1 ⟨ab, g, tb, rfl, ha, hr, ht, la, lt, hb⟩
  have HF : Hid (FP ab g tb w1.heap.size w.heap.size (A.ac.length + B.ac.length) A.ac.length #[.int .i64 A.k, .slice an A.nx.length cn, .slice aa A.ac.length ca] [] (TO ab g tb w1.heap.size w.heap.size) (w1.alloc (.cells #[(.func (.func 69) #[] #[.pointer (some ⟨tb, 0, none⟩), .pointer (some ⟨ab, 0, none⟩)])] 84))) := by
    refine ⟨List.range N, fun _ => 0, ?_, ?_, rfl⟩
    · rw [HNE.out]; exact UF.id N
    · rw [HNE.out]
      have hx := (hb.block _ (Array.getElem?_eq_some_iff.1 HXB.out).1).trans HXB.out
      exact ⟨((below_new _ _).block _ (Array.getElem?_eq_some_iff.1 ha).1).trans ha, (own_mono hr (Nat.zero_le _)).alloc _, ((below_new _ _).block _ (Array.getElem?_eq_some_iff.1 ht).1).trans ht, heap_alloc_last _ _, ((below_new _ _).block _ (Array.getElem?_eq_some_iff.1 hx).1).trans hx⟩
  have HOL : Hid (∀ b, TO ab g tb w1.heap.size w.heap.size b → w.heap.size ≤ b) := fun b q => by
    have h1 := HBV.out.size
    have h2 := hb.size
    have h3 : V.heap.size ≤ g := (own_blk hr rfl).1
    rcases q with q | q | q | q | q <;> omega
  have HB : Hid (Below w.heap.size w (w1.alloc (.cells #[(.func (.func 69) #[] #[.pointer (some ⟨tb, 0, none⟩), .pointer (some ⟨ab, 0, none⟩)])] 84))) := go_on (go_on HBV.out hb) (below_new _ _)
  clear ha hr ht la lt hb hw
  go_wp2_with fail
  go_ret
  exact ⟨ab, g, tb, w1.heap.size, w.heap.size, _, _, _, _, _, rfl, HF.out, HOL.out, HB.out⟩
end Go.Proofs.Ytceoceecgekkjaa
