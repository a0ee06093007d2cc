/- 'copy' of elements of two cells, into a row that is known whole. -/
import Derived.Test.YtfdkkiecibdblaaDoorTw
import Derived.Laws.CopyOwn
namespace Go.Proofs.YtfdkkiecibdblaaDoor
open Go Go.RowKit

theorem run_copy2 {P : Program} (w : World) (dT sT ty elem : TypeId) (g o dLen dCap : Nat) (a : Addr) (sLen sCap m : Nat) (cur : Array Value) (t : TypeId) (cs : List Value)
    (hu : P.underlying dT = some (.slice elem)) (hs : (P.info? elem).map (·.size) = some 2)
    (hg : w.heap[g]? = some (.cells cur t (0, 0))) (hm : Nat.min sLen dLen = m) (hn : cs.length = m * 2)
    (hsrc : ∀ j v, cs[j]? = some v → w.cell? (a.add j) = some v) (hfit : o + cs.length ≤ cur.size) (h1 : ∀ v ∈ cs, v.oneCell' = true) :
    (Builtin.copy_ #[dT, sT] ty #[.slice (some ⟨g, o, none⟩) dLen dCap, .slice (some a) sLen sCap]).run P w =
      .ok (goInt m) (w.setRow g (cur.toList.take o ++ cs ++ cur.toList.drop (o + cs.length)).toArray) := by
  have hl := run_loadCells_list (P := P) w a cs hsrc
  have hst := run_storeCells_at P g o t cs 0 cur w hg (by simpa using hfit) h1
  rw [hn] at hl
  cases hq : P.info? elem with
  | none => simp [hq] at hs
  | some i =>
    have hi : i.size = 2 := by simpa [hq] using hs
    simp [Builtin.copy_, run_underlying hu, Builtin.lenOf, Builtin.firstCells, sizeOf, typeInfo, hq, hi, hm, hl, hst]

theorem wpList_copy2 {P : Program} {w : World} {ops : Array Oper} {rest : List Oper} {o : Oper} {a : Act} {Q : Exit → Act → World → Prop} (hgd : o.guard = none) (d s : Operand) (dT sT : TypeId)
    (ho : o.op = .call { callee := .builtin .copy, args := #[d, s], argTypes := #[dT, sT] }) (elem : TypeId) (hu : P.underlying dT = some (.slice elem)) (hsz : (P.info? elem).map (·.size) = some 2)
    (g off : Nat) (ad : Addr) (dLen dCap sLen sCap m : Nat) (hd : a.eval d = .slice (some ⟨g, off, none⟩) dLen dCap) (hs : a.eval s = .slice (some ad) sLen sCap) (hm : Nat.min sLen dLen = m)
    (cur : List Value) (t : TypeId) (hg : w.heap[g]? = some (.cells cur.toArray t (0, 0))) (cs : List Value) (hn : cs.length = m * 2)
    (hsrc : ∀ j v, cs[j]? = some v → w.cell? (ad.add j) = some v) (hfit : off + cs.length ≤ cur.length) (h1 : ∀ v ∈ cs, v.oneCell' = true)
    (h : ∀ w', Hid (w'.heap[g]? = some (.cells (splice cur off cs).toArray t (0, 0))) → Below g w w' → wpList P ops Q rest (a.put o.dst (goInt m)) w') :
    wpList P ops Q (o :: rest) a w := by
  refine wpList_plain hgd fun K hK => ?_
  have hrun := run_copy2 (P := P) w dT sT o.type elem g off dLen dCap ad sLen sCap m cur.toArray t cs hu hsz hg hm hn hsrc (by simpa using hfit) h1
  unfold Oper.wp
  simp [execOp, ho, resolve, invoke, builtin, hd, hs, hrun, Result.andThen]
  refine hK _ _ (h _ (show _ = _ by simpa [splice] using setRow_heap w g _ _ t _ hg) (below_setRow (Below.refl _ _) (Nat.le_refl _) _))

/-- A row of a block, whole. -/
def WB (w : World) (g : Nat) (L : List Value) : Prop := w.heap[g]? = some (.cells L.toArray 55 (0, 0))
theorem WB.lt {w : World} {g : Nat} {L : List Value} (h : WB w g L) : g < w.heap.size := (Array.getElem?_eq_some_iff.1 h).1
theorem WB.keep {w w' : World} {g : Nat} {L : List Value} (h : WB w g L) (hb : Below w.heap.size w w') : WB w' g L := (hb.block g h.lt).trans h
theorem WB.get {w : World} {g : Nat} {L : List Value} (h : WB w g L) (i : Nat) : w.cell? ⟨g, i, none⟩ = L[i]? := by
  unfold WB at h
  simp [World.cell?, h]
theorem WB.frozen {w : World} {g : Nat} {L : List Value} (h : WB w g L) (i : Nat) : w.frozen? ⟨g, i, none⟩ = false := by
  unfold WB at h
  simp [World.frozen?, h]
theorem WB.set {w : World} {g : Nat} {L : List Value} (h : WB w g L) (i : Nat) (v : Value) : WB (w.setCell ⟨g, i, none⟩ v) g (L.set i v) := by
  unfold WB at *
  rw [setCell_eq_setRow w g i _ _ _ v h, setRow_heap w g _ _ _ _ h]
  simp
/-- What was made and filled is the call's own. -/
theorem WB.owns {w : World} {g base n : Nat} {ts : List Nd} (h : WB w g (ndC ts)) (hb : base ≤ g) (hn : ts.length = n) (hm : n ≤ 4000) : w.ownsRow base 55 2 (.slice (some ⟨g, 0, none⟩) n n) n (ndC ts) := by
  subst hn
  have hl := ndC_length ts
  exact ⟨hl, .inr ⟨g, ts.length, (ndC ts).toArray, rfl, hb, h, Nat.le_refl _, by unfold maxLen; omega, by simp [hl], List.take_of_length_le (by simp [hl])⟩⟩
theorem list_end {L A : List Value} {t : Nat} {x y : Value} (hl : L.length = t + 2) (ht : L.take t = A) : (L.set t x).set (t + 1) y = A ++ [x, y] := by
  subst ht
  apply List.ext_getElem?
  intro i
  by_cases h1 : i < t
  · rw [List.getElem?_set_ne (by omega), List.getElem?_set_ne (by omega), List.getElem?_append_left (by simp; omega), List.getElem?_take_of_lt h1]
  · rw [List.getElem?_append_right (by simp; omega)]
    have hlt : (List.take t L).length = t := by simp; omega
    rw [hlt]
    by_cases h2 : i = t
    · subst h2
      rw [List.getElem?_set_ne (by omega), List.getElem?_set_self (by omega)]; simp
    · by_cases h3 : i = t + 1
      · subst h3
        rw [List.getElem?_set_self (by simp; omega), show t + 1 - t = 1 by omega]; rfl
      · rw [List.getElem?_eq_none (by simp; omega), List.getElem?_eq_none (by simp; omega)]
theorem take_splice {L A cs : List Value} {off : Nat} (hl : off + cs.length ≤ L.length) (hA : L.take off = A) : (splice L off cs).take (off + cs.length) = A ++ cs := by
  subst hA
  unfold splice
  rw [← List.append_assoc]
  exact List.take_left' (by simp; omega)
end Go.Proofs.YtfdkkiecibdblaaDoor
