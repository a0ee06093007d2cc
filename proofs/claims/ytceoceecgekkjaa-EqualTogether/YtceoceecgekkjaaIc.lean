/- equal: the forest of states that hang together (trees, parted), in memory. -/
import Derived.Test.YtceoceecgekkjaaIb
import Derived.Test.YtceoceecgekkjaaLe
namespace Go.Proofs.Ytceoceecgekkjaa
open Go Go.RowKit Go.Lib
set_option linter.unusedVariables false

/-- The forest in row g by a variable at ab; the function top by one at tb, join by one at jb; the first automaton at xb. -/
structure TX (ab g tb jb xb N : Nat) (xa : Array Value) (f : List Value) (w : World) : Prop where
  a : w.heap[ab]? = some (.cells #[.slice (some ⟨g, 0, none⟩) N N] 22 (0, 0))
  row : w.ownsRow 0 3 1 (.slice (some ⟨g, 0, none⟩) N N) N f
  t : w.heap[tb]? = some (.cells #[.func (.func 68) #[] #[.pointer (some ⟨ab, 0, none⟩)]] 62 (0, 0))
  j : w.heap[jb]? = some (.cells #[.func (.func 69) #[] #[.pointer (some ⟨tb, 0, none⟩), .pointer (some ⟨ab, 0, none⟩)]] 84 (0, 0))
  x : w.heap[xb]? = some (.cells xa 25 (0, 0))
def TO (ab g tb jb xb : Nat) (b : Nat) : Prop := b = ab ∨ b = g ∨ b = tb ∨ b = jb ∨ b = xb
theorem TX.glt {ab g tb jb xb N : Nat} {xa : Array Value} {f : List Value} {w : World} (h : TX ab g tb jb xb N xa f w) : g < w.heap.size := (h.row.lt g rfl).2
theorem TX.keep {ab g tb jb xb N : Nat} {xa : Array Value} {f : List Value} {w w' : World} (h : TX ab g tb jb xb N xa f w) (hk : ∀ b, TO ab g tb jb xb b → w'.heap[b]? = w.heap[b]?) : TX ab g tb jb xb N xa f w' :=
  ⟨(hk _ (.inl rfl)).trans h.a, own_keep h.row (fun b cur hb _ => by simp only [Value.ownBlock, Option.some.injEq] at hb; exact hk b (.inr (.inl hb.symm))), (hk _ (.inr (.inr (.inl rfl)))).trans h.t, (hk _ (.inr (.inr (.inr (.inl rfl))))).trans h.j, (hk _ (.inr (.inr (.inr (.inr rfl))))).trans h.x⟩
theorem TX.lt {ab g tb jb xb N : Nat} {xa : Array Value} {f : List Value} {w : World} (h : TX ab g tb jb xb N xa f w) {b : Nat} (hb : TO ab g tb jb xb b) : b < w.heap.size := by
  rcases hb with rfl | rfl | rfl | rfl | rfl
  · exact (Array.getElem?_eq_some_iff.1 h.a).1
  · exact h.glt
  · exact (Array.getElem?_eq_some_iff.1 h.t).1
  · exact (Array.getElem?_eq_some_iff.1 h.j).1
  · exact (Array.getElem?_eq_some_iff.1 h.x).1
theorem TX.below {ab g tb jb xb N : Nat} {xa : Array Value} {f : List Value} {w w' : World} (h : TX ab g tb jb xb N xa f w) (hb : Below w.heap.size w w') : TX ab g tb jb xb N xa f w' := h.keep (fun b hbb => hb.block b (h.lt hbb))
theorem TX.set {ab g tb jb xb N : Nat} {xa : Array Value} {f f' : List Value} {w w' : World} (h : TX ab g tb jb xb N xa f w) (ht : OT g w w') (hr : w'.ownsRow 0 3 1 (.slice (some ⟨g, 0, none⟩) N N) N f') : TX ab g tb jb xb N xa f' w' := by
  obtain ⟨_, cur, hg⟩ := own_blk h.row rfl
  have so : ∀ (b : Nat) (O : Obj), w.heap[b]? = some O → (∀ cur : Array Value, O ≠ Obj.cells cur 3 (0, 0)) → w'.heap[b]? = w.heap[b]? := fun b O hb hne => ht.block b (Array.getElem?_eq_some_iff.1 hb).1 (fun e => by
    rw [e, hg, Option.some.injEq] at hb
    exact hne _ hb.symm)
  exact ⟨(so _ _ h.a (fun cur e => by injection e with _ e _; cases e)).trans h.a, hr, (so _ _ h.t (fun cur e => by injection e with _ e _; cases e)).trans h.t, (so _ _ h.j (fun cur e => by injection e with _ e _; cases e)).trans h.j, (so _ _ h.x (fun cur e => by injection e with _ e _; cases e)).trans h.x⟩

set_option maxHeartbeats 2000000 in
set_option maxRecDepth 100000 in
theorem etop_any (ab g N : Nat) (hN : N ≤ 8192) (f : List Nat) (r e : Nat → Nat) (U : UF N f r e) (s : Nat) (hs : s < N) (w : World) (ha : w.heap[ab]? = some (.cells #[.slice (some ⟨g, 0, none⟩) N N] 22 (0, 0))) (h : w.ownsRow 0 3 1 (.slice (some ⟨g, 0, none⟩) N N) N (nC f)) :
    Calls Try.prog 68 #[.int .i64 s, .pointer (some ⟨ab, 0, none⟩)] w fun x w' => x = .returned (.int .i64 (r s)) ∧ ∃ f', UF N f' r e ∧ w'.ownsRow 0 3 1 (.slice (some ⟨g, 0, none⟩) N N) N (nC f') ∧ OT g w w' := by
  have HU : Hid (UF N f r e) := U
  have HO : Hid (w.ownsRow 0 3 1 (.slice (some ⟨g, 0, none⟩) N N) N (nC f)) := h
  have HNE : Hid (ab ≠ g) := fun e => by
    obtain ⟨_, cur, hg⟩ := own_blk h rfl
    rw [← e, ha] at hg
    injection hg with hg; injection hg with _ hg _; cases hg
  have HAB : Hid (∀ y, OT g w y → y.cell? ⟨ab, 0, none⟩ = some (.slice (some ⟨g, 0, none⟩) N N)) := fun y hy => (hy.cell (Array.getElem?_eq_some_iff.1 ha).1 HNE.out).trans (cell_of ha)
  clear U h ha
  go_enter Try.func68, Try.ntmps68
  go_wp2_with fail
  go_loopw [0] (fun vs wr => ∃ (t : Nat) (f' : List Nat), vs = .int .i64 t ∧ t < N ∧ r t = r s ∧ UF N f' r e ∧ wr.ownsRow 0 3 1 (.slice (some ⟨g, 0, none⟩) N N) N (nC f') ∧ OT g w wr) (fun vs _ => e (intOf vs).toNat)
  case atStart => exact ⟨s, f, rfl, hs, rfl, HU.out, HO.out, OT.refl _ _⟩
  case round =>
    clear HU HO
    obtain ⟨t, f', rfl, ht, hr, U, hO, hT⟩ := hrel
    have hfl := U.len
    have h1 := U.lt t ht
    have h2 := U.lt _ h1
    have hca := HAB.out wr hT
    have hc1 : wr.cell? ⟨g, t, none⟩ = some (.int .i64 (f'.getD t 0 : Nat)) := (hO.cellAt t (by omega)).trans (nC_get (by omega))
    have hc2 : wr.cell? ⟨g, f'.getD t 0, none⟩ = some (.int .i64 (f'.getD (f'.getD t 0) 0 : Nat)) := (hO.cellAt _ (by omega)).trans (nC_get (by omega))
    have htI : (t : Int) < N := by omega
    by_cases hf : f'.getD t 0 = t
    · have HR : Hid (r s = t) := by show _ = _; rw [← hr]; exact (U.fix t ht).1 hf
      rw [hf] at hc1
      have HO : Hid (wr.ownsRow 0 3 1 (.slice (some ⟨g, 0, none⟩) N N) N (nC f')) := hO
      have HU : Hid (UF N f' r e) := U
      have HT : Hid (OT g w wr) := hT
      clear hO U hT hf hr hfl h1 h2 hc2
      go_wp2_with fail
      go_ret
      exact ⟨by rw [HR.out]; rfl, f', HU.out, HO.out, HT.out⟩
    · have U' := U.halve ht hf
      have hd := U.dec t ht hf
      have hd2 : e (f'.getD (f'.getD t 0) 0) ≤ e (f'.getD t 0) := by
        by_cases q : f'.getD (f'.getD t 0) 0 = f'.getD t 0
        · rw [q]; exact Nat.le_refl _
        · exact Nat.le_of_lt (U.dec _ h1 q)
      have hr2 : r (f'.getD (f'.getD t 0) 0) = r s := by rw [U.inv _ h1, U.inv _ ht]; exact hr
      have hst := (hO.stored t (.int .i64 ((f'.getD (f'.getD t 0) 0 : Nat) : Int))).1
      rw [← nC_set] at hst
      obtain ⟨x, hx⟩ : ∃ x, f'.getD t 0 = x := ⟨_, rfl⟩
      rw [hx] at hc1 hc2 h1 h2 hf U' hd hd2 hr2 hst
      obtain ⟨y, hy⟩ : ∃ y, f'.getD x 0 = y := ⟨_, rfl⟩
      rw [hy] at hc2 h2 U' hd2 hr2 hst
      have hxI : (x : Int) < N := by omega
      have hyI : (y : Int) < N := by omega
      have hne : ¬ (x : Int) = t := by omega
      have hdd : decide ((x : Int) = t) = false := decide_eq_false hne
      have hbn : ((x : Int) != (t : Int)) = true := by simpa using hne
      have hfz : wr.frozen? ⟨g, t, none⟩ = false := hO.frozenAt t
      have hOT := hT.set t (.int .i64 (y : Int))
      have hcN : (wr.setCell ⟨g, t, none⟩ (.int .i64 (y : Int))).cell? ⟨g, t, none⟩ = some (.int .i64 (y : Int)) := (hst.cellAt t (by omega)).trans (by rw [nC_get (by rw [U'.len]; exact ht), getD_set (by omega), if_pos rfl])
      have HO : Hid ((wr.setCell ⟨g, t, none⟩ (.int .i64 (y : Int))).ownsRow 0 3 1 (.slice (some ⟨g, 0, none⟩) N N) N (nC (f'.set t y))) := hst
      have HU : Hid (UF N (f'.set t y) r e) := U'
      have HT : Hid (OT g w (wr.setCell ⟨g, t, none⟩ (.int .i64 (y : Int)))) := hOT
      have HR : Hid (r y = r s) := hr2
      have HD : Hid (e y < e t) := by show e y < e t; omega
      have S0 : wr.drew.cell? ⟨ab, 0, none⟩ = some (.slice (some ⟨g, 0, none⟩) N N) ∧ wr.drew.cell? ⟨g, t, none⟩ = some (.int .i64 (x : Int)) ∧ wr.drew.cell? ⟨g, x, none⟩ = some (.int .i64 (y : Int)) ∧ wr.drew.frozen? ⟨g, t, none⟩ = false := ⟨hca, hc1, hc2, hfz⟩
      have HC2 : Hid ((wr.setCell ⟨g, t, none⟩ (.int .i64 (y : Int))).cell? ⟨ab, 0, none⟩ = some (.slice (some ⟨g, 0, none⟩) N N) ∧ (wr.setCell ⟨g, t, none⟩ (.int .i64 (y : Int))).cell? ⟨g, t, none⟩ = some (.int .i64 (y : Int))) := ⟨HAB.out _ hOT, hcN⟩
      obtain ⟨wv, hwv⟩ : ∃ wv, wr.drew = wv := ⟨_, rfl⟩
      have HWV : Hid (wr.drew = wv) := hwv
      have cv1 : wr.drew.cell? ⟨ab, 0, none⟩ = some (.slice (some ⟨g, 0, none⟩) N N) := hca
      have cv2 : wr.drew.cell? ⟨g, t, none⟩ = some (.int .i64 (x : Int)) := hc1
      have cv3 : wr.drew.cell? ⟨g, x, none⟩ = some (.int .i64 (y : Int)) := hc2
      have cv4 : wr.drew.frozen? ⟨g, t, none⟩ = false := hfz
      have hx1 : (wr.drew.setCell ⟨g, t, none⟩ (.int .i64 (y : Int))).cell? ⟨ab, 0, none⟩ = some (.slice (some ⟨g, 0, none⟩) N N) := HC2.out.1
      have hx2 : (wr.drew.setCell ⟨g, t, none⟩ (.int .i64 (y : Int))).cell? ⟨g, t, none⟩ = some (.int .i64 (y : Int)) := HC2.out.2
      have hx3 : (wr.setCell ⟨g, t, none⟩ (.int .i64 (y : Int))).drew.cell? ⟨ab, 0, none⟩ = some (.slice (some ⟨g, 0, none⟩) N N) := HC2.out.1
      have hx4 : (wr.setCell ⟨g, t, none⟩ (.int .i64 (y : Int))).drew.cell? ⟨g, t, none⟩ = some (.int .i64 (y : Int)) := HC2.out.2
      clear hO U hT hf hr hfl hst U' hd hd2 hr2 hx hy hne hwv hOT
      go_wp2_with fail
      go_region
      go_wp2_with fail
      go_roundw
      case rel => exact ⟨y, f'.set t y, rfl, h2, HR.out, HU.out, World.ownsRow.drew HO.out, ⟨HT.out.os, HT.out.tape, HT.out.output, HT.out.size, HT.out.block⟩⟩
      case measure => have := HD.out; simp [intOf]; exact this
end Go.Proofs.Ytceoceecgekkjaa
