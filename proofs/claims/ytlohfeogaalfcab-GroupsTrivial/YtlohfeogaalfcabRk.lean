/- Loops over an iterator that does work of its own between the rounds, where a round's values are known by how many rounds there were, and which are left by break. -/
import Derived.Test.YtlohfeogaalfcabRg
namespace Go.Proofs.Ytlohfeogaalfcab
open Go Go.RowKit Go.Shelf
set_option linter.unusedVariables false

attribute [local go_sem] Oper.semAt_some

/-- The blocks of S stay as they were. -/
structure KS (S : Nat → Prop) (W W' : World) : Prop where
  os : W'.os = W.os
  tape : W'.tape = W.tape
  output : W'.output = W.output
  size : W.heap.size ≤ W'.heap.size
  block : ∀ b, S b → W'.heap[b]? = W.heap[b]?
theorem KS.refl (S : Nat → Prop) (W : World) : KS S W W := ⟨rfl, rfl, rfl, Nat.le_refl _, fun _ _ => rfl⟩
theorem KS.trans {S : Nat → Prop} {X Y Z : World} (h : KS S X Y) (k : KS S Y Z) : KS S X Z := ⟨k.os.trans h.os, k.tape.trans h.tape, k.output.trans h.output, Nat.le_trans h.size k.size, fun b hb => (k.block b hb).trans (h.block b hb)⟩
theorem KS.below {S : Nat → Prop} {X Y : World} (hS : ∀ b, S b → b < X.heap.size) (h : Below X.heap.size X Y) : KS S X Y := ⟨h.os, h.tape, h.output, h.size, fun b hb => h.block b (hS b hb)⟩
theorem KS.put {S : Nat → Prop} {X : World} {k : Nat} {o : Obj} (hk : ¬ S k) : KS S X (X.putObj k o) := ⟨rfl, rfl, rfl, by simp [World.putObj], fun b hb => World.putObj_heap_other (fun e => hk (e ▸ hb))⟩
/-- What an iterator does that calls its function with val 0, val 1, .. val (N - 1), and makes memory of its own in between. -/
def IterS (F : Fence) (n : Nat) (P : Program) (gf : Nat) (lb : Array Value) (val : Nat → Array Value) (S : Nat → Prop) (N : Nat) (w : World) : Prop :=
  ∀ (l : Nat) (J : Nat → World → Prop) (Jx : World → Prop) (W : World), KS S w W →
    (∀ j W1, j < N → J j W1 → KS S w W1 → YieldAt F (n - 1) P l (val j) W1 fun e W' => (e = .returned (.bool true) ∧ J (j + 1) W' ∧ KS S W1 W') ∨ (e = .returned (.bool false) ∧ Jx W')) →
    (∀ j W1 W', J j W1 → Below W1.heap.size W1 W' → J j W') →
    J 0 W → CallsIn F n P gf (#[.func (.yield l) #[] #[]] ++ lb) W fun e W' => (∃ v, e = .returned v) ∧ (J N W' ∨ Jx W')
/-- How a round ends: it goes on, or leaves the loop. -/
def RndB (id B : Nat) (S : Nat → Prop) (I : Nat → World → Prop) (X : Unit → World → Prop) (j : Nat) (W : World) : Exit → Act → World → Prop
  | .normal, _, W' => KeepsFrom B W W' ∧ KS S W W' ∧ I (j + 1) W'
  | .exit i, _, W' => i = id ∧ KeepsFrom B W W' ∧ X () W'
  | _, _, _ => False

theorem rangeFunc_brk {F : Fence} {n : Nat} {P : Program} {g : Operand} {ps : Array Tmp} {assign body : Code} {Q : Exit → Act → World → Prop} {a : Act} {w : World}
    (hro : F.round = none) (h1 : 1 ≤ n) {gf : Nat} {lb : Array Value} (hg : a.eval g = .func (.func gf) #[] lb) (hFg : F.fn gf) (eg : ∀ args w, (callFunc gf args).run P w = .ok (.enter gf args) w)
    {val : Nat → Array Value} {S : Nat → Prop} {N : Nat} {w0 : World} (hS : ∀ b, S b → b < w.heap.size) (hseq : IterS F (n - 1) P gf lb val S N w0) (hb0 : KS S w0 w) (hps : ∀ j, (val j).size = ps.size) (id : Nat)
    (I : Nat → World → Prop) (X : Unit → World → Prop) (hI : OwnFrom w.heap.size I) (hX : OwnFrom w.heap.size X) (hIb : ∀ j W1 W', w.heap.size ≤ W1.heap.size → I j W1 → Below W1.heap.size W1 W' → I j W') (h0 : I 0 w)
    (A : Nat → Act → World → Prop) (hA : ∀ j a', OwnFrom w.heap.size (fun (_ : Unit) W => A j a' W))
    (hassign : ∀ (l j : Nat) (W : World) (K : Act → World → Prop), j < N → I j W → KS S w0 W → (∀ a' W', KeepsFrom w.heap.size W W' → KS S W W' → A j a' W' → K a' W') →
      assign.wpIn (F.inRound l) (n - 1 - 1) P (Exit.then K (fun _ _ _ => False)) { tmps := (ps.zip (val j)).foldl (fun t (p, v) => t.setIfInBounds p v) a.tmps, defers := [] } W)
    (hbody : ∀ (l j : Nat) (a' : Act) (W : World), j < N → A j a' W → KS S w0 W → body.wpIn (F.inRound l) (n - 1 - 1) P (RndB id w.heap.size S I X j W) a' W)
    (hdone : ∀ (D : Nat) (W : World), w.heap.size ≤ D → I N W → W.heap[D]? = some (.deferred (some [])) → Q .normal { a with defers := { target := .collected D, args := #[] } :: a.defers } W)
    (hstop : ∀ (D : Nat) (W : World), w.heap.size ≤ D → X () W → W.heap[D]? = some (.deferred (some [])) → (Code.exit id).wpIn F n P Q { a with defers := { target := .collected D, args := #[] } :: a.defers } W) :
    (Code.rangeFunc g ps assign body).wpIn F n P Q a w := by
  refine wpIn_rangeFunc fun fn hfn => ?_
  obtain ⟨L, hL⟩ : ∃ L : LoopState → Option Code → Loop, L = fun st pe => { state := st, pending := pe, fn, tmps := a.tmps, params := ps, assign, body, defers := w.heap.size } := ⟨_, rfl⟩
  obtain ⟨V, hV⟩ : ∃ V, V = (w.alloc (.deferred (some []))).alloc (.loop (L .ready none)) := ⟨_, rfl⟩
  have hVl : V.heap[w.heap.size + 1]? = some (.loop (L .ready none)) := by
    have := World.alloc_heap_new (w.alloc (.deferred (some []))) (.loop (L .ready none))
    rw [World.size_alloc] at this
    rw [hV]; exact this
  have hVd : V.heap[w.heap.size]? = some (.deferred (some [])) := by
    rw [hV, heap_alloc_old _ _ _ (by simp)]; exact World.alloc_heap_new w _
  have hVI : I 0 V := by rw [hV]; exact hI.alloc _ (hI.alloc _ h0)
  have hVb : KS S w0 V := by
    rw [hV]; exact hb0.trans (KS.below hS (((Below.refl _ w).alloc (Nat.le_refl _) _).alloc (by simp) _))
  have hnl : ¬ S (w.heap.size + 1) := fun h => by have := hS _ h; omega
  -- the record is written anew
  have put : ∀ {W : World} {r : Loop} (r' : Loop), W.heap[w.heap.size + 1]? = some (.loop r) → W.heap[w.heap.size]? = some (.deferred (some [])) →
      (W.putObj (w.heap.size + 1) (.loop r')).heap[w.heap.size + 1]? = some (.loop r') ∧ (W.putObj (w.heap.size + 1) (.loop r')).heap[w.heap.size]? = some (.deferred (some [])) ∧ KS S W (W.putObj (w.heap.size + 1) (.loop r')) :=
    fun {W r} r' hl hd => ⟨World.putObj_heap_same (Array.getElem?_eq_some_iff.1 hl).1, (World.putObj_heap_other (by omega)).trans hd, KS.put hnl⟩
  refine ⟨w.heap.size + 1, [{ target := .collected w.heap.size, args := #[] }], V, { target := .fn (.func gf) lb, args := #[.func (.yield (w.heap.size + 1)) #[] #[]] }, V, gf, #[.func (.yield (w.heap.size + 1)) #[] #[]] ++ lb, V, ?_, ?_, ?_, ?_, fun _ => h1, ?_⟩
  · rw [hro, hV, hL]; exact run_enterLoop_outer _ _ _ _ _
  · simp only [resolve, hg]; simp [go_sem]
  · intro f' hf'; simp [Target.leads] at hf'; subst hf'; exact hFg
  · simp [invoke, go_sem, eg]
  refine (hseq (w.heap.size + 1) (fun j W => I j W ∧ W.heap[w.heap.size + 1]? = some (.loop (L .ready none)) ∧ W.heap[w.heap.size]? = some (.deferred (some [])))
    (fun W => X () W ∧ W.heap[w.heap.size + 1]? = some (.loop (L .done (some (.exit id)))) ∧ W.heap[w.heap.size]? = some (.deferred (some []))) V hVb ?_ ?_ ⟨hVI, hVl, hVd⟩).mono ?_
  · rintro j W hj ⟨hi, hl, hd⟩ hks
    have hy := run_yield (P := P) (args := val j) hl (by rw [hL]; exact hps j)
    rw [hL] at hy
    refine ⟨fn, _, assign, body, hy, roundIn_of_wpIn hfn (hassign _ j W _ hj hi hks fun a' W' hk hb hAj => ?_)⟩
    have hl' := hk.same _ _ (by omega) hl rfl
    have hd' := hk.same _ _ (Nat.le_refl _) hd rfl
    refine ⟨_, run_beginRound hl' (by rw [hL]), ?_⟩
    obtain ⟨p1, p2, p3⟩ := put { L .ready none with state := .busy } hl' hd'
    refine wpIn_mono (hbody _ j a' _ hj ((hA j a').putObj (s := ()) _ hAj (by omega) hl' rfl) ((hks.trans hb).trans p3)) ?_
    intro e a3 W3 hp
    cases e with
    | normal =>
      obtain ⟨k3, b3, i3⟩ := hp
      have hl3 := k3.same _ _ (by omega) p1 rfl
      have hd3 := k3.same _ _ (Nat.le_refl _) p2 rfl
      have hr := run_endRound (P := P) none hl3
      obtain ⟨q1, q2, q3⟩ := put (L .ready none) hl3 hd3
      rw [hL] at hr q1 q2 q3
      refine ⟨_, _, hr, .inl ⟨rfl, ⟨hI.putObj _ i3 (by omega) hl3 rfl, ?_, q2⟩, ((hb.trans p3).trans b3).trans q3⟩⟩
      rw [hL]; exact q1
    | exit i =>
      obtain ⟨rfl, k3, x3⟩ := hp
      have hl3 := k3.same _ _ (by omega) p1 rfl
      have hd3 := k3.same _ _ (Nat.le_refl _) p2 rfl
      have hr := run_endRound (P := P) (some (.exit i)) hl3
      obtain ⟨q1, q2, q3⟩ := put (L .done (some (.exit i))) hl3 hd3
      rw [hL] at hr q1 q2 q3
      refine ⟨_, _, hr, .inr ⟨rfl, hX.putObj _ x3 (by omega) hl3 rfl, ?_, q2⟩⟩
      rw [hL]; exact q1
    | ret => exact hp.elim
    | goto t => exact hp.elim
    | panic ch => exact hp.elim
    | outgrown => exact hp.elim
  · rintro j W1 W' ⟨hi, hl, hd⟩ hb
    have hlt : w.heap.size + 1 < W1.heap.size := (Array.getElem?_eq_some_iff.1 hl).1
    exact ⟨hIb j W1 W' (by omega) hi hb, (hb.block _ hlt).trans hl, (hb.block _ (by omega)).trans hd⟩
  · rintro e W2 ⟨⟨v, rfl⟩, (⟨hi, hl, hd⟩ | ⟨hx, hl, hd⟩)⟩
    · have hr := run_endLoop (P := P) hl (by rw [hL]; simp)
      obtain ⟨q1, q2, q3⟩ := put { L .ready none with state := .exhausted } hl hd
      rw [hL] at hr q2
      exact ⟨none, _, hr, hdone _ _ (Nat.le_refl _) (hI.putObj _ hi (by omega) hl rfl) q2⟩
    · have hr := run_endLoop (P := P) hl (by rw [hL]; simp)
      obtain ⟨q1, q2, q3⟩ := put { L .done (some (.exit id)) with state := .exhausted } hl hd
      rw [hL] at hr q2
      exact ⟨some (.exit id), _, hr, hstop _ _ (Nat.le_refl _) (hX.putObj _ hx (by omega) hl rfl) q2⟩
end Go.Proofs.Ytlohfeogaalfcab
