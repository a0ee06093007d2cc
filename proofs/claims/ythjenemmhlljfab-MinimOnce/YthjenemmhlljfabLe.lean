/- minim: the forest of states that hang together: alone, top, join. -/
import Derived.Test.YthjenemmhlljfabLb
import Derived.Test.YthjenemmhlljfabMc
import Derived.Deep.RegionHeld3
namespace Go.Proofs.Ythjenemmhlljfab
open Go Go.RowKit Go.Lib
set_option linter.unusedVariables false

theorem nC_get {l : List Nat} {i : Nat} (h : i < l.length) : (nC l)[i]? = some (.int .i64 (l.getD i 0 : Nat)) := by
  simp [nC, h]

set_option maxHeartbeats 2000000 in
set_option maxRecDepth 100000 in
theorem alone_any (n : Nat) (hn : n ≤ 4096) (w : World) :
    Calls Try.prog 33 #[.int .i64 n] w fun e w' => e = .returned (.slice (some ⟨w.heap.size, 0, none⟩) n n) ∧ w'.ownsRow w.heap.size 3 1 (.slice (some ⟨w.heap.size, 0, none⟩) n n) n (nC (List.range n)) ∧ Below w.heap.size w w' := by
  obtain ⟨i0, hi, hz0, hz1, hz2⟩ := info_parts Try.info_int
  have hmk := fun w0 => run_make (P := Try.prog) w0 22 3 i0 (.int .i64 0) Try.underlying22 hi hz0 .i64 .i64 (n : Int) (n : Int) (by omega) (by omega) (by rw [hz2]; omega) (by omega)
  rw [hz1] at hmk
  simp only [Nat.mul_one] at hmk
  have HO0 : Hid ((w.alloc (.cells (madeCells #[.int .i64 0] n) 3)).ownsRow w.heap.size 3 1 (.slice (some ⟨w.heap.size, 0, none⟩) n n) n (nC (filN id n 0)) ∧ Below w.heap.size w (w.alloc (.cells (madeCells #[.int .i64 0] n) 3))) := ⟨made_row w id (by omega) (Nat.le_refl _), below_new _ _⟩
  go_enter Try.func33, Try.ntmps33
  go_wp2_with fail
  clear hmk
  go_loopw [9, 4] (fun vi _ wr => ∃ i : Nat, vi = .int .i64 i ∧ i ≤ n ∧ wr.ownsRow w.heap.size 3 1 (.slice (some ⟨w.heap.size, 0, none⟩) n n) n (nC (filN id n i)) ∧ Below w.heap.size w wr) (fun vi _ _ => n - (intOf vi).toNat)
  case atStart => exact ⟨0, rfl, Nat.zero_le _, HO0.out⟩
  case round =>
    clear HO0
    obtain ⟨i, rfl, hin, hO, hB⟩ := hrel
    by_cases hlt : i < n
    · have hiI : (i : Int) < n := by omega
      have hfz : wr.frozen? ⟨w.heap.size, i, none⟩ = false := hO.frozenAt i
      have hcl : wr.cell? ⟨w.heap.size, i, none⟩ = some (.int .i64 0) := (hO.cellAt i (by omega)).trans (filN_cell id hlt)
      have hst := (hO.stored i (.int .i64 ((id i : Nat) : Int))).1
      rw [← nC_set, filN_set id hlt] at hst
      have HN : Hid ((wr.setCell ⟨w.heap.size, i, none⟩ (.int .i64 (i : Int))).ownsRow w.heap.size 3 1 (.slice (some ⟨w.heap.size, 0, none⟩) n n) n (nC (filN id n (i + 1)))) := hst
      have HN2 : Hid (Below w.heap.size w (wr.setCell ⟨w.heap.size, i, none⟩ (.int .i64 (i : Int)))) := hB.setCell (p := ⟨w.heap.size, i, none⟩) (Nat.le_refl _) _
      clear hst hO hB
      go_wp2_with fail
      go_roundw
      case rel => exact ⟨i + 1, by go_num, by omega, HN.out, HN2.out⟩
      case measure => simp [intOf]; omega
    · have hiI : ¬ (i : Int) < n := by omega
      have e : i = n := by omega
      rw [e, filN_end] at hO
      have e2 : (List.range n).map id = List.range n := List.map_id _
      rw [e2] at hO
      have HO : Hid (wr.ownsRow w.heap.size 3 1 (.slice (some ⟨w.heap.size, 0, none⟩) n n) n (nC (List.range n))) := hO
      have HB : Hid (Below w.heap.size w wr) := hB
      clear hO hB e e2
      go_wp2_with fail
      go_ret
      exact ⟨rfl, HO.out, HB.out⟩

/-- Behind a call that writes into the row g alone. -/
structure OT (g : Nat) (w w' : World) : Prop where
  os : w'.os = w.os
  tape : w'.tape = w.tape
  output : w'.output = w.output
  size : w.heap.size ≤ w'.heap.size
  block : ∀ b, b < w.heap.size → b ≠ g → w'.heap[b]? = w.heap[b]?
theorem OT.refl (g : Nat) (w : World) : OT g w w := ⟨rfl, rfl, rfl, Nat.le_refl _, fun _ _ _ => rfl⟩
theorem OT.trans {g : Nat} {a b c : World} (h : OT g a b) (k : OT g b c) : OT g a c := ⟨k.os.trans h.os, k.tape.trans h.tape, k.output.trans h.output, Nat.le_trans h.size k.size, fun x hx hn => (k.block x (Nat.lt_of_lt_of_le hx h.size) hn).trans (h.block x hx hn)⟩
theorem OT.set {g : Nat} {a b : World} (h : OT g a b) (i : Nat) (v : Value) : OT g a (b.setCell ⟨g, i, none⟩ v) :=
  ⟨h.os, h.tape, h.output, by simp [World.setCell]; exact h.size, fun x hx hn => by rw [heap_set_other hn]; exact h.block x hx hn⟩
theorem OT.below {g B : Nat} {w w' : World} (h : OT g w w') (hg : B ≤ g) (hs : B ≤ w.heap.size) : Below B w w' := ⟨h.os, h.tape, h.output, h.size, fun b hb => h.block b (Nat.lt_of_lt_of_le hb hs) (by omega)⟩
theorem OT.cell {g b o : Nat} {w w' : World} (h : OT g w w') (hb : b < w.heap.size) (hn : b ≠ g) : w'.cell? ⟨b, o, none⟩ = w.cell? ⟨b, o, none⟩ := World.cell?_of_block (h.block b hb hn)

set_option maxHeartbeats 2000000 in
set_option maxRecDepth 100000 in
theorem top_any (base g N : Nat) (hN : N ≤ 4096) (f : List Nat) (r e : Nat → Nat) (U : UF N f r e) (s : Nat) (hs : s < N) (w : World) (h : w.ownsRow base 3 1 (.slice (some ⟨g, 0, none⟩) N N) N (nC f)) :
    Calls Try.prog 40 #[.slice (some ⟨g, 0, none⟩) N N, .int .i64 s] w fun x w' => x = .returned (.int .i64 (r s)) ∧ ∃ f', UF N f' r e ∧ w'.ownsRow base 3 1 (.slice (some ⟨g, 0, none⟩) N N) N (nC f') ∧ OT g w w' := by
  have HU : Hid (UF N f r e) := U
  have HO : Hid (w.ownsRow base 3 1 (.slice (some ⟨g, 0, none⟩) N N) N (nC f)) := h
  clear U h
  go_enter Try.func40, Try.ntmps40
  go_wp2_with fail
  go_loopw [1] (fun vs wr => ∃ (t : Nat) (f' : List Nat), vs = .int .i64 t ∧ t < N ∧ r t = r s ∧ UF N f' r e ∧ wr.ownsRow base 3 1 (.slice (some ⟨g, 0, none⟩) N N) N (nC f') ∧ OT g w wr) (fun vs _ => e (intOf vs).toNat)
  case atStart => exact ⟨s, f, rfl, hs, rfl, HU.out, HO.out, OT.refl _ _⟩
  case round =>
    clear HU HO
    obtain ⟨t, f', rfl, ht, hr, U, hO, hT⟩ := hrel
    have hfl := U.len
    have h1 := U.lt t ht
    have h2 := U.lt _ h1
    have hc1 : wr.cell? ⟨g, t, none⟩ = some (.int .i64 (f'.getD t 0 : Nat)) := (hO.cellAt t (by omega)).trans (nC_get (by omega))
    have hc2 : wr.cell? ⟨g, f'.getD t 0, none⟩ = some (.int .i64 (f'.getD (f'.getD t 0) 0 : Nat)) := (hO.cellAt _ (by omega)).trans (nC_get (by omega))
    have htI : (t : Int) < N := by omega
    by_cases hf : f'.getD t 0 = t
    · have HR : Hid (r s = t) := by show _ = _; rw [← hr]; exact (U.fix t ht).1 hf
      rw [hf] at hc1
      have HO : Hid (wr.ownsRow base 3 1 (.slice (some ⟨g, 0, none⟩) N N) N (nC f')) := hO
      have HU : Hid (UF N f' r e) := U
      have HT : Hid (OT g w wr) := hT
      clear hO U hT hf hr hfl h1 h2 hc2
      go_wp2_with fail
      go_ret
      exact ⟨by rw [HR.out]; rfl, f', HU.out, HO.out, HT.out⟩
    · have U' := U.halve ht hf
      have hd := U.dec t ht hf
      have hd2 : e (f'.getD (f'.getD t 0) 0) ≤ e (f'.getD t 0) := by
        by_cases q : f'.getD (f'.getD t 0) 0 = f'.getD t 0
        · rw [q]; exact Nat.le_refl _
        · exact Nat.le_of_lt (U.dec _ h1 q)
      have hr2 : r (f'.getD (f'.getD t 0) 0) = r s := by rw [U.inv _ h1, U.inv _ ht]; exact hr
      have hst := (hO.stored t (.int .i64 ((f'.getD (f'.getD t 0) 0 : Nat) : Int))).1
      rw [← nC_set] at hst
      obtain ⟨x, hx⟩ : ∃ x, f'.getD t 0 = x := ⟨_, rfl⟩
      rw [hx] at hc1 hc2 h1 h2 hf U' hd hd2 hr2 hst
      obtain ⟨y, hy⟩ : ∃ y, f'.getD x 0 = y := ⟨_, rfl⟩
      rw [hy] at hc2 h2 U' hd2 hr2 hst
      have hxI : (x : Int) < N := by omega
      have hyI : (y : Int) < N := by omega
      have hne : ¬ (x : Int) = t := by omega
      have hdd : decide ((x : Int) = t) = false := decide_eq_false hne
      have hbn : ((x : Int) != (t : Int)) = true := by simpa using hne
      have hfz : wr.frozen? ⟨g, t, none⟩ = false := hO.frozenAt t
      have hcN : (wr.setCell ⟨g, t, none⟩ (.int .i64 (y : Int))).cell? ⟨g, t, none⟩ = some (.int .i64 (y : Int)) := (hst.cellAt t (by omega)).trans (by rw [nC_get (by rw [U'.len]; exact ht), getD_set (by omega), if_pos rfl])
      have HO : Hid ((wr.setCell ⟨g, t, none⟩ (.int .i64 (y : Int))).ownsRow base 3 1 (.slice (some ⟨g, 0, none⟩) N N) N (nC (f'.set t y))) := hst
      have HU : Hid (UF N (f'.set t y) r e) := U'
      have HT : Hid (OT g w (wr.setCell ⟨g, t, none⟩ (.int .i64 (y : Int)))) := hT.set t _
      have HR : Hid (r y = r s) := hr2
      have HD : Hid (e y < e t) := by show e y < e t; omega
      clear hO U hT hf hr hfl hst U' hd hd2 hr2 hx hy hne
      go_wp2_with fail
      go_roundw
      case rel => exact ⟨y, f'.set t y, rfl, h2, HR.out, HU.out, HO.out, HT.out⟩
      case measure => have := HD.out; simp [intOf]; exact this

/-- What join answers and leaves. -/
def JQ (base g N : Nat) (r : Nat → Nat) (s t : Nat) (w : World) (x : Ending) (w' : World) : Prop := x = .returned (.bool (decide (r s ≠ r t))) ∧ ∃ f' e', UF N f' (if r s = r t then r else jn r s t) e' ∧ w'.ownsRow base 3 1 (.slice (some ⟨g, 0, none⟩) N N) N (nC f') ∧ OT g w w'

set_option maxHeartbeats 2000000 in
set_option maxRecDepth 100000 in
theorem join_any (base g N : Nat) (hN : N ≤ 4096) (f : List Nat) (r e : Nat → Nat) (U : UF N f r e) (s t : Nat) (hs : s < N) (ht : t < N) (w : World) (h : w.ownsRow base 3 1 (.slice (some ⟨g, 0, none⟩) N N) N (nC f)) :
    Calls Try.prog 35 #[.slice (some ⟨g, 0, none⟩) N N, .int .i64 s, .int .i64 t] w (JQ base g N r s t w) := by
  have HU : Hid (UF N f r e) := U
  have HO : Hid (w.ownsRow base 3 1 (.slice (some ⟨g, 0, none⟩) N N) N (nC f)) := h
  have hr1 := (U.root hs).1
  have hr2 := (U.root ht).1
  clear U h
  go_enter Try.func35, Try.ntmps35
  go_wp2_with fail
  refine (top_any base g N hN f r e HU.out s hs w HO.out).mono ?_
  rintro x w1 ⟨rfl, f1, u1, o1, t1⟩
  have HU1 : Hid (UF N f1 r e) := u1
  have HO1 : Hid (w1.ownsRow base 3 1 (.slice (some ⟨g, 0, none⟩) N N) N (nC f1)) := o1
  have HT1 : Hid (OT g w w1) := t1
  clear u1 o1 t1
  go_wp2_with fail
  refine (top_any base g N hN f1 r e HU1.out t ht w1 HO1.out).mono ?_
  rintro x w2 ⟨rfl, f2, u2, o2, t2⟩
  have HU2 : Hid (UF N f2 r e) := u2
  have HO2 : Hid (w2.ownsRow base 3 1 (.slice (some ⟨g, 0, none⟩) N N) N (nC f2)) := o2
  have HT2 : Hid (OT g w w2) := HT1.out.trans t2
  obtain ⟨p, hp⟩ : ∃ p, r s = p := ⟨_, rfl⟩
  obtain ⟨q, hq⟩ : ∃ q, r t = q := ⟨_, rfl⟩
  have HPE : Hid (r s = p ∧ r t = q) := ⟨hp, hq⟩
  rw [hp] at hr1
  rw [hq] at hr2
  rw [show (r s : Nat) = p from hp, show (r t : Nat) = q from hq]
  have hpI : (p : Int) < N := by omega
  have hfz : w2.frozen? ⟨g, p, none⟩ = false := o2.frozenAt p
  have hfl := u2.len
  obtain ⟨z, hz⟩ : ∃ z, f2.getD p 0 = z := ⟨_, rfl⟩
  have hcl : w2.cell? ⟨g, p, none⟩ = some (.int .i64 (z : Int)) := by rw [← hz]; exact (o2.cellAt p (by omega)).trans (nC_get (by omega))
  have hst := (o2.stored p (.int .i64 (q : Int))).1
  rw [← nC_set] at hst
  have HO3 : Hid ((w2.setCell ⟨g, p, none⟩ (.int .i64 (q : Int))).ownsRow base 3 1 (.slice (some ⟨g, 0, none⟩) N N) N (nC (f2.set p q))) := hst
  have HT3 : Hid (OT g w (w2.setCell ⟨g, p, none⟩ (.int .i64 (q : Int)))) := HT2.out.set p _
  by_cases hpq : p = q
  · have HU3 : Hid (∃ e', UF N (f2.set p q) (if p = q then r else jn r s t) e') := by
      refine ⟨e, ?_⟩
      rw [if_pos hpq, ← hpq, ← hp, HU2.out.stay hs]
      exact HU2.out
    have HPQ : Hid (decide (p ≠ q) = false) := by show _ = _; simpa using hpq
    clear hst o2 u2 t2 hz hp hq hfl
    subst hpq
    go_wp2_with fail
    go_ret
    obtain ⟨e', he⟩ := HU3.out
    refine ⟨?_, _, e', ?_, HO3.out, HT3.out⟩
    · rw [HPE.out.1, HPE.out.2, HPQ.out]; rfl
    · rw [HPE.out.1, HPE.out.2, if_pos rfl]; simpa using he
  · have HU3 : Hid (∃ e', UF N (f2.set p q) (if p = q then r else jn r s t) e') := by
      have := HU2.out.link hs ht (by rw [hp, hq]; exact hpq)
      rw [hp, hq] at this
      show ∃ e', _
      rw [if_neg hpq]
      exact this
    have HPQ : Hid (decide (p ≠ q) = true) := by show _ = _; simpa using hpq
    have hI : ¬ (p : Int) = q := by omega
    have hd : decide ((p : Int) = q) = false := decide_eq_false hI
    have hbn : ((p : Int) != (q : Int)) = true := by simpa using hI
    clear hst o2 u2 t2 hpq hz hp hq hfl
    go_wp2_with fail
    go_ret
    obtain ⟨e', he⟩ := HU3.out
    refine ⟨?_, _, e', ?_, HO3.out, HT3.out⟩
    · rw [HPE.out.1, HPE.out.2, HPQ.out]; rfl
    · rw [HPE.out.1, HPE.out.2]; exact he
end Go.Proofs.Ythjenemmhlljfab
