/- Loops over an iterator, where a round's values are known by how many rounds there were; slices.Backward over steps. -/
import Derived.RangeFuncBox
import Derived.RangeFuncLeaves
import Derived.RangeFuncWrites
import Derived.Shelf.Abstract
import Derived.WalkKit
import Derived.OwnWalkIn
import Derived.TacticsInMore
import Derived.LoopNIn
import Derived.LoopIn
import Derived.Test.YtabkhoiccjkghaaRows
import Derived.Deep.WholeRow
import Derived.Below
import Derived.Deep.RegionWith
namespace Go.Proofs.Ytabkhoiccjkghaa
open Go Go.RowKit Go.Shelf
set_option linter.unusedVariables false

attribute [local go_sem] Oper.semAt_some

/-- Blocks that stay as they were. -/
def Kept (Bs : List Nat) (W W' : World) : Prop := ∀ b ∈ Bs, W'.heap[b]? = W.heap[b]?
theorem Kept.refl (Bs : List Nat) (W : World) : Kept Bs W W := fun _ _ => rfl
theorem Kept.trans {Bs : List Nat} {X Y Z : World} (h : Kept Bs X Y) (k : Kept Bs Y Z) : Kept Bs X Z := fun b hb => (k b hb).trans (h b hb)
/-- What an iterator does that calls its function with val 0, val 1, .. val (N - 1). -/
def IterAt (F : Fence) (n : Nat) (P : Program) (gf : Nat) (lb : Array Value) (val : Nat → Array Value) (Bs : List Nat) (N : Nat) (w : World) : Prop :=
  ∀ (l : Nat) (J : Nat → World → Prop) (Jx : World → Prop) (W : World), Below w.heap.size w W →
    (∀ j W1, j < N → J j W1 → YieldAt F (n - 1) P l (val j) W1 fun e W' => (e = .returned (.bool true) ∧ J (j + 1) W' ∧ Kept Bs W1 W') ∨ (e = .returned (.bool false) ∧ Jx W')) →
    J 0 W → CallsIn F n P gf (#[.func (.yield l) #[] #[]] ++ lb) W fun e W' => (∃ v, e = .returned v) ∧ (J N W' ∨ Jx W')
/-- How a round ends: it goes on, or the function returns. -/
def RndP (B : Nat) (Bs : List Nat) (I : Nat → World → Prop) (X : Unit → World → Prop) (j : Nat) (W : World) : Exit → Act → World → Prop
  | .normal, _, W' => KeepsFrom B W W' ∧ Kept Bs W W' ∧ I (j + 1) W'
  | .ret, _, W' => KeepsFrom B W W' ∧ X () W'
  | _, _, _ => False

theorem rangeFunc_at {F : Fence} {n : Nat} {P : Program} {g : Operand} {ps : Array Tmp} {assign body : Code} {Q : Exit → Act → World → Prop} {a : Act} {w : World}
    (hro : F.round = none) (h1 : 1 ≤ n) {gf : Nat} {lb : Array Value} (hg : a.eval g = .func (.func gf) #[] lb) (hFg : F.fn gf) (eg : ∀ args w, (callFunc gf args).run P w = .ok (.enter gf args) w)
    {val : Nat → Array Value} {Bs : List Nat} {N : Nat} {w0 : World} (hBs : ∀ b ∈ Bs, b < w.heap.size) (hseq : IterAt F (n - 1) P gf lb val Bs N w0) (hb0 : Below w0.heap.size w0 w) (hps : ∀ j, (val j).size = ps.size)
    (I : Nat → World → Prop) (X : Unit → World → Prop) (hI : OwnFrom w.heap.size I) (hX : OwnFrom w.heap.size X) (h0 : I 0 w)
    (A : Nat → Act → World → Prop) (hA : ∀ j a', OwnFrom w.heap.size (fun (_ : Unit) W => A j a' W))
    (hassign : ∀ (l j : Nat) (W : World) (K : Act → World → Prop), j < N → I j W → (∀ a' W', KeepsFrom w.heap.size W W' → Kept Bs W W' → A j a' W' → K a' W') →
      assign.wpIn (F.inRound l) (n - 1 - 1) P (Exit.then K (fun _ _ _ => False)) { tmps := (ps.zip (val j)).foldl (fun t (p, v) => t.setIfInBounds p v) a.tmps, defers := [] } W)
    (hbody : ∀ (l j : Nat) (a' : Act) (W : World), j < N → A j a' W → body.wpIn (F.inRound l) (n - 1 - 1) P (RndP w.heap.size Bs I X j W) a' W)
    (hdone : ∀ (D : Nat) (W : World), w.heap.size ≤ D → I N W → W.heap[D]? = some (.deferred (some [])) → Q .normal { a with defers := { target := .collected D, args := #[] } :: a.defers } W)
    (hstop : ∀ (D : Nat) (W : World), w.heap.size ≤ D → X () W → W.heap[D]? = some (.deferred (some [])) → Code.ret.wpIn F n P Q { a with defers := { target := .collected D, args := #[] } :: a.defers } W) :
    (Code.rangeFunc g ps assign body).wpIn F n P Q a w := by
  refine wpIn_rangeFunc fun fn hfn => ?_
  obtain ⟨L, hL⟩ : ∃ L : LoopState → Option Code → Loop, L = fun st pe => { state := st, pending := pe, fn, tmps := a.tmps, params := ps, assign, body, defers := w.heap.size } := ⟨_, rfl⟩
  obtain ⟨V, hV⟩ : ∃ V, V = (w.alloc (.deferred (some []))).alloc (.loop (L .ready none)) := ⟨_, rfl⟩
  have hVl : V.heap[w.heap.size + 1]? = some (.loop (L .ready none)) := by
    have := World.alloc_heap_new (w.alloc (.deferred (some []))) (.loop (L .ready none))
    rw [World.size_alloc] at this
    rw [hV]; exact this
  have hVd : V.heap[w.heap.size]? = some (.deferred (some [])) := by
    rw [hV, heap_alloc_old _ _ _ (by simp)]; exact World.alloc_heap_new w _
  have hVI : I 0 V := by rw [hV]; exact hI.alloc _ (hI.alloc _ h0)
  have hVb : Below w0.heap.size w0 V := by
    rw [hV]; exact hb0.trans ((((Below.refl _ w).alloc (Nat.le_refl _) _).alloc (by simp) _).mono hb0.size)
  -- the record is written anew
  have put : ∀ {W : World} {r : Loop} (r' : Loop), W.heap[w.heap.size + 1]? = some (.loop r) → W.heap[w.heap.size]? = some (.deferred (some [])) →
      (W.putObj (w.heap.size + 1) (.loop r')).heap[w.heap.size + 1]? = some (.loop r') ∧ (W.putObj (w.heap.size + 1) (.loop r')).heap[w.heap.size]? = some (.deferred (some [])) ∧ Kept Bs W (W.putObj (w.heap.size + 1) (.loop r')) :=
    fun {W r} r' hl hd => ⟨World.putObj_heap_same (Array.getElem?_eq_some_iff.1 hl).1, (World.putObj_heap_other (by omega)).trans hd, fun b hb => World.putObj_heap_other (by have := hBs b hb; omega)⟩
  refine ⟨w.heap.size + 1, [{ target := .collected w.heap.size, args := #[] }], V, { target := .fn (.func gf) lb, args := #[.func (.yield (w.heap.size + 1)) #[] #[]] }, V, gf, #[.func (.yield (w.heap.size + 1)) #[] #[]] ++ lb, V, ?_, ?_, ?_, ?_, fun _ => h1, ?_⟩
  · rw [hro, hV, hL]; exact run_enterLoop_outer _ _ _ _ _
  · simp only [resolve, hg]; simp [go_sem]
  · intro f' hf'; simp [Target.leads] at hf'; subst hf'; exact hFg
  · simp [invoke, go_sem, eg]
  refine (hseq (w.heap.size + 1) (fun j W => I j W ∧ W.heap[w.heap.size + 1]? = some (.loop (L .ready none)) ∧ W.heap[w.heap.size]? = some (.deferred (some [])))
    (fun W => X () W ∧ W.heap[w.heap.size + 1]? = some (.loop (L .done (some .ret))) ∧ W.heap[w.heap.size]? = some (.deferred (some []))) V hVb ?_ ⟨hVI, hVl, hVd⟩).mono ?_
  · rintro j W hj ⟨hi, hl, hd⟩
    have hy := run_yield (P := P) (args := val j) hl (by rw [hL]; exact hps j)
    rw [hL] at hy
    refine ⟨fn, _, assign, body, hy, roundIn_of_wpIn hfn (hassign _ j W _ hj hi fun a' W' hk hb hAj => ?_)⟩
    have hl' := hk.same _ _ (by omega) hl rfl
    have hd' := hk.same _ _ (Nat.le_refl _) hd rfl
    refine ⟨_, run_beginRound hl' (by rw [hL]), ?_⟩
    obtain ⟨p1, p2, p3⟩ := put { L .ready none with state := .busy } hl' hd'
    refine wpIn_mono (hbody _ j a' _ hj ((hA j a').putObj (s := ()) _ hAj (by omega) hl' rfl)) ?_
    intro e a3 W3 hp
    cases e with
    | normal =>
      obtain ⟨k3, b3, i3⟩ := hp
      have hl3 := k3.same _ _ (by omega) p1 rfl
      have hd3 := k3.same _ _ (Nat.le_refl _) p2 rfl
      have hr := run_endRound (P := P) none hl3
      obtain ⟨q1, q2, q3⟩ := put (L .ready none) hl3 hd3
      rw [hL] at hr q1 q2 q3
      refine ⟨_, _, hr, .inl ⟨rfl, ⟨hI.putObj _ i3 (by omega) hl3 rfl, ?_, q2⟩, ((hb.trans p3).trans b3).trans q3⟩⟩
      rw [hL]; exact q1
    | ret =>
      obtain ⟨k3, x3⟩ := hp
      have hl3 := k3.same _ _ (by omega) p1 rfl
      have hd3 := k3.same _ _ (Nat.le_refl _) p2 rfl
      have hr := run_endRound (P := P) (some .ret) hl3
      obtain ⟨q1, q2, q3⟩ := put (L .done (some .ret)) hl3 hd3
      rw [hL] at hr q1 q2 q3
      refine ⟨_, _, hr, .inr ⟨rfl, hX.putObj _ x3 (by omega) hl3 rfl, ?_, q2⟩⟩
      rw [hL]; exact q1
    | exit id => exact hp.elim
    | goto t => exact hp.elim
    | panic ch => exact hp.elim
    | outgrown => exact hp.elim
  · rintro e W2 ⟨⟨v, rfl⟩, (⟨hi, hl, hd⟩ | ⟨hx, hl, hd⟩)⟩
    · have hr := run_endLoop (P := P) hl (by rw [hL]; simp)
      obtain ⟨q1, q2, q3⟩ := put { L .ready none with state := .exhausted } hl hd
      rw [hL] at hr q2
      exact ⟨none, _, hr, hdone _ _ (Nat.le_refl _) (hI.putObj _ hi (by omega) hl rfl) q2⟩
    · have hr := run_endLoop (P := P) hl (by rw [hL]; simp)
      obtain ⟨q1, q2, q3⟩ := put { L .done (some .ret) with state := .exhausted } hl hd
      rw [hL] at hr q2
      exact ⟨some .ret, _, hr, hstop _ _ (Nat.le_refl _) (hX.putObj _ hx (by omega) hl rfl) q2⟩
end Go.Proofs.Ytabkhoiccjkghaa
