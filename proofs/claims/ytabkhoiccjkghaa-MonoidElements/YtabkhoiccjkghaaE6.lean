/- monoid's finding in memory; its put. -/
import Derived.Test.YtabkhoiccjkghaaE5
namespace Go.Proofs.Ytabkhoiccjkghaa
open Go Go.RowKit Go.Lib Go.Maps
set_option linter.unusedVariables false
attribute [-instance] List.instBEq instBEqProd

/-- Blocks of S may be written; those of S' behind it are of S or new. -/
structure Fr (S : Nat → Prop) (w : World) (S' : Nat → Prop) (w' : World) : Prop where
  only : Only S w w'
  grow : ∀ j, S' j → S j ∨ w.heap.size ≤ j
theorem Fr.trans {S S' S'' : Nat → Prop} {w w' w'' : World} (h : Fr S w S' w') (g : Fr S' w' S'' w'') : Fr S w S'' w'' := by
  have hs := h.only.size
  refine ⟨⟨h.only.zero.trans g.only.zero, fun j hj hn => ?_⟩, fun j hj => ?_⟩
  · rw [g.only.block j (by omega) (fun q => by rcases h.grow j q with q | q; exact hn q; omega)]
    exact h.only.block j hj hn
  · rcases g.grow j hj with q | q
    · exact h.grow j q
    · exact .inr (by omega)
theorem Fr.of {S : Nat → Prop} {w w' : World} (h : Below w.heap.size w w') : Fr S w S w' := ⟨Only.of h, fun j hj => .inl hj⟩
theorem Fr.below {S S' : Nat → Prop} {B : Nat} {w0 w w' : World} (h : Fr S w S' w') (hb : Below B w0 w) (hB : B ≤ w0.heap.size) (hS : ∀ j, S j → B ≤ j) : Below B w0 w' := h.only.below hb hB hS

def wyC (W : List (Nat × Nat)) : List Value := W.flatMap fun p => [.int .i64 (p.1 : Int), .int .i64 (p.2 : Int)]
theorem wyC_len : ∀ W : List (Nat × Nat), (wyC W).length = W.length * 2
  | [] => rfl
  | a :: W => by
    have := wyC_len W
    unfold wyC at this ⊢
    rw [List.flatMap_cons, List.length_append, this]
    simp
    omega
theorem wyC_at : ∀ (W : List (Nat × Nat)) (i : Nat) (p : Nat × Nat), W[i]? = some p → (wyC W)[i * 2]? = some (.int .i64 (p.1 : Int)) ∧ (wyC W)[i * 2 + 1]? = some (.int .i64 (p.2 : Int))
  | [], i, p, h => by simp at h
  | a :: W, 0, p, h => by
    simp at h
    subst h
    simp [wyC]
  | a :: W, i + 1, p, h => by
    have := wyC_at W i p (by simpa using h)
    unfold wyC at this ⊢
    rw [List.flatMap_cons, List.getElem?_append_right (by simp; omega), List.getElem?_append_right (by simp; omega)]
    simp only [List.length_cons, List.length_nil]
    rw [show (i + 1) * 2 - (0 + 1 + 1) = i * 2 by omega, show (i + 1) * 2 + 1 - (0 + 1 + 1) = i * 2 + 1 by omega]
    exact this
theorem wyC_snoc (W : List (Nat × Nat)) (x y : Nat) : wyC (W ++ [(x, y)]) = wyC W ++ [.int .i64 (x : Int), .int .i64 (y : Int)] := by simp [wyC]
def uC (N : List Nat) : List Value := N.map fun (n : Nat) => Value.int .u16 (n : Int)
theorem uC_len (N : List Nat) : (uC N).length = N.length := by simp [uC]
theorem uC_snoc (N : List Nat) (x : Nat) : uC (N ++ [x]) = uC N ++ [.int .u16 (x : Int)] := by simp [uC]
theorem uC_at {N : List Nat} {i x : Nat} (h : N[i]? = some x) : (uC N)[i]? = some (.int .u16 (x : Int)) := by simp [uC, h]

/-- The search's block, its table, ways and letters behind. -/
structure FN (base : Nat) (w : World) (fb b mb K n : Nat) (vl vw vr : Value) (M : List (List Nat)) (W : List (Nat × Nat)) (N : List Nat) (D : DataW Unit) : Prop where
  tb : TB base w b mb n vl M D
  box : w.heap[fb]? = some (.cells #[.int .i64 K, .pointer (some ⟨b, 0, none⟩), vw, vr] 89 (0, 0))
  ways : w.ownsRow base 110 2 vw W.length (wyC W)
  right : w.ownsRow base 97 1 vr N.length (uC N)
  lof : base ≤ fb
/-- Its blocks. -/
def FS (fb b mb : Nat) (vl vw vr : Value) (j : Nat) : Prop := j = fb ∨ TS b mb vl j ∨ vw.ownBlock = some j ∨ vr.ownBlock = some j
theorem FN.keep {base : Nat} {w w' : World} {fb b mb K n : Nat} {vl vw vr : Value} {M : List (List Nat)} {W : List (Nat × Nat)} {N : List Nat} {D : DataW Unit} (h : FN base w fb b mb K n vl vw vr M W N D) (hk : ∀ j, FS fb b mb vl vw vr j → j < w.heap.size → w'.heap[j]? = w.heap[j]?) : FN base w' fb b mb K n vl vw vr M W N D :=
  ⟨h.tb.keep (fun j hj hl => hk j (.inr (.inl hj)) hl), (hk fb (.inl rfl) (Array.getElem?_eq_some_iff.1 h.box).1).trans h.box, own_keep h.ways (fun j cur hj hc => hk j (.inr (.inr (.inl hj))) (Array.getElem?_eq_some_iff.1 hc).1), own_keep h.right (fun j cur hj hc => hk j (.inr (.inr (.inr hj))) (Array.getElem?_eq_some_iff.1 hc).1), h.lof⟩
theorem FN.below {base : Nat} {w w' : World} {fb b mb K n : Nat} {vl vw vr : Value} {M : List (List Nat)} {W : List (Nat × Nat)} {N : List Nat} {D : DataW Unit} (h : FN base w fb b mb K n vl vw vr M W N D) (hb : Below w.heap.size w w') : FN base w' fb b mb K n vl vw vr M W N D := h.keep (fun j _ hj => hb.block j hj)
theorem FN.fs {base : Nat} {w : World} {fb b mb K n : Nat} {vl vw vr : Value} {M : List (List Nat)} {W : List (Nat × Nat)} {N : List Nat} {D : DataW Unit} (h : FN base w fb b mb K n vl vw vr M W N D) {j : Nat} (hj : FS fb b mb vl vw vr j) : base ≤ j ∧ j < w.heap.size := by
  rcases hj with rfl | hj | hj | hj
  · exact ⟨h.lof, (Array.getElem?_eq_some_iff.1 h.box).1⟩
  · exact h.tb.ts hj
  · exact h.ways.lt j hj
  · exact h.right.lt j hj
/-- Two blocks of unlike types are two. -/
theorem blk_ne {w : World} {a b : Nat} {ca cb : Array Value} {ta tb : TypeId} {fa fb : Nat × Nat} (ha : w.heap[a]? = some (.cells ca ta fa)) (hb : w.heap[b]? = some (.cells cb tb fb)) (h : ta ≠ tb) : a ≠ b := fun e => by
  rw [e, hb] at ha
  injection ha with ha
  injection ha with _ ha _
  exact h ha.symm
theorem TB.not_ts {base : Nat} {w : World} {b mb n : Nat} {vl : Value} {M : List (List Nat)} {D : DataW Unit} (h : TB base w b mb n vl M D) {j : Nat} {c : Array Value} {t : TypeId} {f : Nat × Nat} (hj : w.heap[j]? = some (.cells c t f)) (h1 : t ≠ 101) (h2 : t ≠ 42) : ¬ TS b mb vl j := by
  rintro (q | q | q)
  · exact blk_ne hj h.box h1 q
  · obtain ⟨es, ck, hm⟩ := map_blk h.mp
    rw [q, hm] at hj
    cases hj
  · obtain ⟨_, cur, hc⟩ := own_blk h.row q
    rw [hj] at hc
    injection hc with hc
    injection hc with _ hc _
    exact h2 hc
theorem FN.table {base : Nat} {w w' : World} {fb b mb K n : Nat} {vl vl' vw vr : Value} {M M' : List (List Nat)} {W : List (Nat × Nat)} {N : List Nat} {D D' : DataW Unit} (h : FN base w fb b mb K n vl vw vr M W N D) (ht : TB base w' b mb n vl' M' D') (ho : Only (TS b mb vl) w w') : FN base w' fb b mb K n vl' vw vr M' W N D' := by
  refine ⟨ht, ?_, ?_, ?_, h.lof⟩
  · exact (ho.block fb (Array.getElem?_eq_some_iff.1 h.box).1 (h.tb.not_ts h.box (by decide) (by decide))).trans h.box
  · exact own_keep h.ways (fun j cur hj hc => ho.block j (Array.getElem?_eq_some_iff.1 hc).1 (h.tb.not_ts hc (by decide) (by decide)))
  · exact own_keep h.right (fun j cur hj hc => ho.block j (Array.getElem?_eq_some_iff.1 hc).1 (h.tb.not_ts hc (by decide) (by decide)))
theorem FN.not_fs {base : Nat} {w : World} {fb b mb K n : Nat} {vl vw vr : Value} {M : List (List Nat)} {W : List (Nat × Nat)} {N : List Nat} {D : DataW Unit} (h : FN base w fb b mb K n vl vw vr M W N D) {j : Nat} {c : Array Value} {t : TypeId} {f : Nat × Nat} (hj : w.heap[j]? = some (.cells c t f)) (h1 : t ≠ 101) (h2 : t ≠ 42) (h3 : t ≠ 89) (h4 : t ≠ 110) (h5 : t ≠ 97) : ¬ FS fb b mb vl vw vr j := by
  rintro (q | q | q | q)
  · exact blk_ne hj h.box h3 q
  · exact h.tb.not_ts hj h1 h2 q
  · obtain ⟨_, cur, hc⟩ := own_blk h.ways q
    rw [hj] at hc; injection hc with hc; injection hc with _ hc _; exact h4 hc
  · obtain ⟨_, cur, hc⟩ := own_blk h.right q
    rw [hj] at hc; injection hc with hc; injection hc with _ hc _; exact h5 hc
/-- A way more. -/
theorem FN.wayd {base : Nat} {w w7 : World} {fb b mb K n : Nat} {vl vw vw' vr : Value} {M : List (List Nat)} {W : List (Nat × Nat)} {N : List Nat} {D : DataW Unit} {x y : Nat} {o : Obj} (h : FN base w fb b mb K n vl vw vr M W N D)
    (ho : w7.ownsRow base 110 2 vw' (W.length + 1) (wyC W ++ [.int .i64 (x : Int), .int .i64 (y : Int)])) (hg : (w.alloc o).grownBy w7 vw.ownBlock) :
    w7.heap[fb]? = some (.cells #[.int .i64 K, .pointer (some ⟨b, 0, none⟩), vw, vr] 89 (0, 0)) ∧
    FN base (w7.setCell ⟨fb, 2, none⟩ vw') fb b mb K n vl vw' vr M (W ++ [(x, y)]) N D ∧ Only (FS fb b mb vl vw vr) w (w7.setCell ⟨fb, 2, none⟩ vw') := by
  have hfl := (Array.getElem?_eq_some_iff.1 h.box).1
  have hs7 : w.heap.size + 1 ≤ w7.heap.size := by have := (Only.grown (S := fun _ => True) hg (fun _ _ => trivial)).size; simpa using this
  have k : ∀ j, j < w.heap.size → vw.ownBlock ≠ some j → w7.heap[j]? = w.heap[j]? := fun j hj h2 => by
    rw [hg.block j (by simp; omega) (fun e => h2 e.symm), (below_new w o).block j hj]
  have kt : ∀ (j : Nat) (O : Obj), w.heap[j]? = some O → (∀ cur : Array Value, O ≠ Obj.cells cur 110 (0, 0)) → w7.heap[j]? = w.heap[j]? := fun j O hj hne => k j (Array.getElem?_eq_some_iff.1 hj).1 (fun e => by
    obtain ⟨_, cur, hc⟩ := own_blk h.ways e
    rw [hc, Option.some.injEq] at hj
    exact hne cur hj.symm)
  have box7 := (kt fb _ h.box (fun cur e => by injection e with _ e _; exact absurd e (by decide))).trans h.box
  have so : ∀ (j : Nat) (O : Obj), w7.heap[j]? = some O → (∀ cur : Array Value, O ≠ Obj.cells cur 89 (0, 0)) → (w7.setCell ⟨fb, 2, none⟩ vw').heap[j]? = w7.heap[j]? := fun j O hj hne => heap_set_other (fun e => by
    rw [e, box7, Option.some.injEq] at hj
    exact hne _ hj.symm)
  refine ⟨box7, ⟨?_, heap_set box7, ?_, ?_, h.lof⟩, ?_, ?_⟩
  · refine h.tb.keep (fun j hj hl => ?_)
    have e1 : w7.heap[j]? = w.heap[j]? := k j hl (fun e => by
      obtain ⟨_, cur, hc⟩ := own_blk h.ways e
      exact h.tb.not_ts hc (by decide) (by decide) hj)
    rw [heap_set_other (fun e => h.tb.not_ts (e ▸ h.box) (by decide) (by decide) hj), e1]
  · rw [List.length_append, wyC_snoc]
    exact own_keep ho (fun j cur hj hc => so j _ hc (fun cur' e => by injection e with _ e _; exact absurd e (by decide)))
  · refine own_keep (own_keep h.right (fun j cur hj hc => kt j _ hc (fun cur' e => by injection e with _ e _; exact absurd e (by decide)))) (fun j cur hj hc => so j _ hc (fun cur' e => by injection e with _ e _; exact absurd e (by decide)))
  · exact (((Below.refl 0 w).alloc (Nat.zero_le _) o).grown hg (by omega) (fun _ _ => Nat.zero_le _)).setCell (p := ⟨fb, 2, none⟩) (Nat.zero_le _) _
  · intro j hj hS
    unfold FS at hS
    rw [heap_set_other (fun e => hS (.inl e))]
    exact k j hj (fun e => hS (.inr (.inr (.inl e))))
/-- A letter behind, more. -/
theorem FN.rightd {base : Nat} {w w7 : World} {fb b mb K n : Nat} {vl vw vr vr' : Value} {M : List (List Nat)} {W : List (Nat × Nat)} {N : List Nat} {D : DataW Unit} {x : Nat} {o : Obj} (h : FN base w fb b mb K n vl vw vr M W N D)
    (ho : w7.ownsRow base 97 1 vr' (N.length + 1) (uC N ++ [.int .u16 (x : Int)])) (hg : (w.alloc o).grownBy w7 vr.ownBlock) :
    w7.heap[fb]? = some (.cells #[.int .i64 K, .pointer (some ⟨b, 0, none⟩), vw, vr] 89 (0, 0)) ∧
    FN base (w7.setCell ⟨fb, 3, none⟩ vr') fb b mb K n vl vw vr' M W (N ++ [x]) D ∧ Only (FS fb b mb vl vw vr) w (w7.setCell ⟨fb, 3, none⟩ vr') := by
  have hfl := (Array.getElem?_eq_some_iff.1 h.box).1
  have hs7 : w.heap.size + 1 ≤ w7.heap.size := by have := (Only.grown (S := fun _ => True) hg (fun _ _ => trivial)).size; simpa using this
  have k : ∀ j, j < w.heap.size → vr.ownBlock ≠ some j → w7.heap[j]? = w.heap[j]? := fun j hj h2 => by
    rw [hg.block j (by simp; omega) (fun e => h2 e.symm), (below_new w o).block j hj]
  have kt : ∀ (j : Nat) (O : Obj), w.heap[j]? = some O → (∀ cur : Array Value, O ≠ Obj.cells cur 97 (0, 0)) → w7.heap[j]? = w.heap[j]? := fun j O hj hne => k j (Array.getElem?_eq_some_iff.1 hj).1 (fun e => by
    obtain ⟨_, cur, hc⟩ := own_blk h.right e
    rw [hc, Option.some.injEq] at hj
    exact hne cur hj.symm)
  have box7 := (kt fb _ h.box (fun cur e => by injection e with _ e _; exact absurd e (by decide))).trans h.box
  have so : ∀ (j : Nat) (O : Obj), w7.heap[j]? = some O → (∀ cur : Array Value, O ≠ Obj.cells cur 89 (0, 0)) → (w7.setCell ⟨fb, 3, none⟩ vr').heap[j]? = w7.heap[j]? := fun j O hj hne => heap_set_other (fun e => by
    rw [e, box7, Option.some.injEq] at hj
    exact hne _ hj.symm)
  refine ⟨box7, ⟨?_, heap_set box7, ?_, ?_, h.lof⟩, ?_, ?_⟩
  · refine h.tb.keep (fun j hj hl => ?_)
    have e1 : w7.heap[j]? = w.heap[j]? := k j hl (fun e => by
      obtain ⟨_, cur, hc⟩ := own_blk h.right e
      exact h.tb.not_ts hc (by decide) (by decide) hj)
    rw [heap_set_other (fun e => h.tb.not_ts (e ▸ h.box) (by decide) (by decide) hj), e1]
  · refine own_keep (own_keep h.ways (fun j cur hj hc => kt j _ hc (fun cur' e => by injection e with _ e _; exact absurd e (by decide)))) (fun j cur hj hc => so j _ hc (fun cur' e => by injection e with _ e _; exact absurd e (by decide)))
  · rw [List.length_append, uC_snoc]
    exact own_keep ho (fun j cur hj hc => so j _ hc (fun cur' e => by injection e with _ e _; exact absurd e (by decide)))
  · exact (((Below.refl 0 w).alloc (Nat.zero_le _) o).grown hg (by omega) (fun _ _ => Nat.zero_le _)).setCell (p := ⟨fb, 3, none⟩) (Nat.zero_le _) _
  · intro j hj hS
    unfold FS at hS
    rw [heap_set_other (fun e => hS (.inl e))]
    exact k j hj (fun e => hS (.inr (.inr (.inr e))))
end Go.Proofs.Ytabkhoiccjkghaa
