/- Expressions as trees: their nodes, their texts; what is printed is read as it was. -/
import Derived.Test.YtjonlmafhijcoaaDoorVa
namespace Go.Proofs.YtjonlmafhijcoaaDoor
open Go Go.RowKit
set_option linter.unusedVariables false

/-- What joins two parts. -/
inductive Bo where
  | un | it | cc
def Bo.kind : Bo → Int
  | .un => 5 | .it => 6 | .cc => 7
def Bo.lev : Bo → Nat
  | .un => 1 | .it => 2 | .cc => 3
def Bo.mark : Bo → List UInt8
  | .un => [124] | .it => [38] | .cc => []
theorem Bo.tight_kind (o : Bo) : tight o.kind = o.lev := by cases o <;> rfl
theorem Bo.lev_pos (o : Bo) : 1 ≤ o.lev := by cases o <;> decide
theorem Bo.lev_le (o : Bo) : o.lev ≤ 3 := by cases o <;> decide
inductive Ex where
  | none | empty | any
  | letter (s : Int)
  | star (a : Ex)
  | not (a : Ex)
  | bin (o : Bo) (a b : Ex)
def Ex.flat : Ex → List Nd
  | .none => [(1, 0)] | .empty => [(2, 0)] | .any => [(4, 0)] | .letter s => [(3, s)]
  | .star a => a.flat ++ [(8, 0)]
  | .not a => a.flat ++ [(9, 0)]
  | .bin o a b => a.flat ++ b.flat ++ [(o.kind, 0)]
def Ex.lev : Ex → Nat
  | .not _ => 4
  | .bin o _ _ => o.lev
  | _ => 5
def wl (l : List UInt8) (t least : Nat) : List UInt8 := if t < least then 40 :: (l ++ [41]) else l
def Ex.tx : Ex → List UInt8
  | .none => [48] | .empty => [49] | .any => [46] | .letter s => [UInt8.ofNat s.toNat]
  | .star a => wl a.tx a.lev 5 ++ [42]
  | .not a => 33 :: wl a.tx a.lev 4
  | .bin o a b => wl a.tx a.lev o.lev ++ (o.mark ++ wl b.tx b.lev (o.lev + 1))
/-- All letters are among the first k. -/
def Ex.okk (k : Int) : Ex → Prop
  | .letter s => 97 ≤ s ∧ s < 97 + k
  | .star a => a.okk k
  | .not a => a.okk k
  | .bin _ a b => a.okk k ∧ b.okk k
  | _ => True
theorem Ex.lev_pos (e : Ex) : 1 ≤ e.lev := by
  cases e <;> simp [Ex.lev] <;> exact Bo.lev_pos _
/-- A list that is a tree is the nodes of an expression. -/
theorem ex_of {k : Int} (hk : k ≤ 8) : ∀ (m : Nat) (ts : List Nd), ts.length ≤ m → freeN ts = some 1 → (∀ n ∈ ts, farL k n = false) → ∃ t : Ex, t.okk k ∧ t.flat = ts
  | 0, ts, hm, h, hl => by have := free_pos h; omega
  | m + 1, ts, hm, h, hl => by
    obtain ⟨h0, hg, hsl⟩ := tree_end h
    obtain ⟨⟨kd, s⟩, hn⟩ : ∃ n, ts.getD (ts.length - 1) (0, 0) = n := ⟨_, rfl⟩
    rw [hn] at hg hsl
    simp only at hsl
    obtain ⟨hft, hte⟩ := tree_last h hn
    have hmem : (kd, s) ∈ ts := by rw [hte]; simp
    have hfar := hl _ hmem
    have hsub : ∀ n ∈ ts.take (ts.length - 1), farL k n = false := fun n hn => hl n (List.mem_of_mem_take hn)
    have hgk := good_kind hg
    simp only at hgk
    have hc : kd = 1 ∨ kd = 2 ∨ kd = 3 ∨ kd = 4 ∨ kd = 5 ∨ kd = 6 ∨ kd = 7 ∨ kd = 8 ∨ kd = 9 := by omega
    have leafy : arity kd = 0 → ts = [(kd, s)] := by
      intro hr
      rw [hr] at hsl hft
      have hT := trees_any _ _ hft
      rw [List.eq_nil_of_length_eq_zero hsl] at hT
      have hT : ts.take (ts.length - 1) = [] := hT
      rw [hT] at hte
      exact hte
    have oney : arity kd = 1 → ∃ a : Ex, a.okk k ∧ a.flat = ts.take (ts.length - 1) := by
      intro hr
      rw [hr] at hft
      exact ex_of hk m _ (by simp; omega) hft hsub
    have twoy : arity kd = 2 → ∃ a b : Ex, a.okk k ∧ b.okk k ∧ a.flat ++ b.flat ++ [(kd, s)] = ts := by
      intro hr
      rw [hr] at hsl
      obtain ⟨x, b, hstk⟩ : ∃ a b, stkN (ts.take (ts.length - 1)) = [a, b] := by
        match hh : stkN (ts.take (ts.length - 1)), hsl with
        | [a, b], _ => exact ⟨a, b, rfl⟩
      obtain ⟨p, q, he, hfp, hfq, _, _⟩ := tree_two h hn hstk
      have hlen := congrArg List.length he
      simp only [List.length_append, List.length_singleton] at hlen
      have hp1 := free_pos hfp
      have hq1 := free_pos hfq
      obtain ⟨a, ha, ea⟩ := ex_of hk m p (by omega) hfp (fun n hn => hl n (by rw [he]; simp [hn]))
      obtain ⟨c, hc, ec⟩ := ex_of hk m q (by omega) hfq (fun n hn => hl n (by rw [he]; simp [hn]))
      exact ⟨a, c, ha, hc, by rw [ea, ec]; exact he.symm⟩
    have hs0 : kd ≠ 3 → s = 0 := by
      intro h3
      unfold good at hg
      rw [if_neg h3] at hg
      have := of_decide_eq_true hg
      exact this.2.2
    rcases hc with rfl | rfl | rfl | rfl | rfl | rfl | rfl | rfl | rfl
    · rw [leafy rfl, hs0 (by decide)]; exact ⟨.none, trivial, rfl⟩
    · rw [leafy rfl, hs0 (by decide)]; exact ⟨.empty, trivial, rfl⟩
    · rw [leafy rfl]
      refine ⟨.letter s, ?_, rfl⟩
      have h1 : isLet s = true := hg
      have h2 := of_decide_eq_true h1
      have h3 : ¬ (97 + k ≤ s) := by
        intro h
        unfold farL at hfar
        simp [h] at hfar
      exact ⟨h2.1, by omega⟩
    · rw [leafy rfl, hs0 (by decide)]; exact ⟨.any, trivial, rfl⟩
    · obtain ⟨a, b, ha, hb, e⟩ := twoy rfl
      rw [hs0 (by decide)] at e
      exact ⟨.bin .un a b, ⟨ha, hb⟩, e⟩
    · obtain ⟨a, b, ha, hb, e⟩ := twoy rfl
      rw [hs0 (by decide)] at e
      exact ⟨.bin .it a b, ⟨ha, hb⟩, e⟩
    · obtain ⟨a, b, ha, hb, e⟩ := twoy rfl
      rw [hs0 (by decide)] at e
      exact ⟨.bin .cc a b, ⟨ha, hb⟩, e⟩
    · obtain ⟨a, ha, e⟩ := oney rfl
      rw [hs0 (by decide)] at hte
      exact ⟨.star a, ha, by rw [Ex.flat, e]; exact hte.symm⟩
    · obtain ⟨a, ha, e⟩ := oney rfl
      rw [hs0 (by decide)] at hte
      exact ⟨.not a, ha, by rw [Ex.flat, e]; exact hte.symm⟩
/-- The text as bytes. -/
def Ex.ba (e : Ex) : ByteArray := ⟨e.tx.toArray⟩
theorem wth_ba (l : List UInt8) (t least : Nat) : wth ⟨l.toArray⟩ t least = ⟨(wl l t least).toArray⟩ := by
  unfold wth wl
  split
  · apply ByteArray.ext
    simp [openB, shutB, ByteArray.data_append]
  · rfl
theorem lastW_snoc (ws : List Wr) (x : Wr) : lastW (ws ++ [x]) = x := by
  simp [lastW]
theorem prevW_snoc (ws : List Wr) (x y : Wr) : prevW (ws ++ [x] ++ [y]) = x := by
  simp [prevW]
theorem lev_tight (e : Ex) : ∃ X n, e.flat = X ++ [n] ∧ tight n.1 = e.lev := by
  cases e with
  | none => exact ⟨[], _, rfl, rfl⟩
  | empty => exact ⟨[], _, rfl, rfl⟩
  | any => exact ⟨[], _, rfl, rfl⟩
  | letter s => exact ⟨[], _, rfl, rfl⟩
  | star a => exact ⟨_, _, rfl, rfl⟩
  | not a => exact ⟨_, _, rfl, rfl⟩
  | bin o a b => exact ⟨_, _, rfl, o.tight_kind⟩
theorem runW_cons {n : Nd} {rest : List Nd} {ws r : List Wr} {b : ByteArray} (h : runW ([n] ++ rest) ws = some r) (hb : textF n ws = b) : runW rest (ws.take (ws.length - arity n.1) ++ [(b, tight n.1)]) = some r ∧ b.size ≤ 1000 := by
  simp only [List.singleton_append, runW] at h
  split at h
  · cases h
  · next hs => rw [hb] at hs; unfold pstep at h; rw [hb] at h; exact ⟨h, by omega⟩
theorem runW_ex : ∀ (e : Ex) (rest : List Nd) (ws r : List Wr), runW (e.flat ++ rest) ws = some r → runW rest (ws ++ [(e.ba, e.lev)]) = some r ∧ e.ba.size ≤ 1000
  | .none, rest, ws, r, h => by
    have := runW_cons (b := Ex.none.ba) h rfl
    simpa [arity, tight, Ex.lev] using this
  | .empty, rest, ws, r, h => by
    have := runW_cons (b := Ex.empty.ba) h rfl
    simpa [arity, tight, Ex.lev] using this
  | .any, rest, ws, r, h => by
    have := runW_cons (b := Ex.any.ba) h rfl
    simpa [arity, tight, Ex.lev] using this
  | .letter s, rest, ws, r, h => by
    have := runW_cons (b := (Ex.letter s).ba) h rfl
    simpa [arity, tight, Ex.lev] using this
  | .star a, rest, ws, r, h => by
    rw [Ex.flat, List.append_assoc] at h
    have h1 := runW_ex a _ _ _ h
    have h2 := runW_cons (b := (Ex.star a).ba) h1.1 (by
      show wth (lastW _).1 (lastW _).2 5 ++ _ = _
      rw [lastW_snoc, Ex.ba, wth_ba]
      apply ByteArray.ext
      simp [Ex.ba, Ex.tx, ByteArray.data_append])
    simpa [arity, tight, Ex.lev] using h2
  | .not a, rest, ws, r, h => by
    rw [Ex.flat, List.append_assoc] at h
    have h1 := runW_ex a _ _ _ h
    have h2 := runW_cons (b := (Ex.not a).ba) h1.1 (by
      show _ ++ wth (lastW _).1 (lastW _).2 4 = _
      rw [lastW_snoc, Ex.ba, wth_ba]
      apply ByteArray.ext
      simp [Ex.ba, Ex.tx, ByteArray.data_append])
    simpa [arity, tight, Ex.lev] using h2
  | .bin o a b, rest, ws, r, h => by
    rw [Ex.flat, List.append_assoc, List.append_assoc] at h
    have h1 := runW_ex a _ _ _ h
    have h3 := runW_ex b _ _ _ h1.1
    have h2 := runW_cons (b := (Ex.bin o a b).ba) h3.1 (by
      cases o
      all_goals
        show pairT (prevW _).1 (lastW _).1 (prevW _).2 (lastW _).2 _ _ = _
        rw [lastW_snoc, prevW_snoc]
        simp only [pairT, Ex.ba, wth_ba]
        apply ByteArray.ext
        simp [Ex.tx, ByteArray.data_append, Bo.lev, Bo.mark])
    cases o
    all_goals simpa [arity, tight, Ex.lev, Bo.kind, Bo.lev] using h2
theorem print_ex {k : Int} {e : Ex} {s : ByteArray} (h : printV k e.flat = (s, 0)) : s = e.ba ∧ s.size ≤ 1000 := by
  unfold printV at h
  split at h
  · next hc => exact absurd (congrArg Prod.snd h) hc
  · cases hr : runW e.flat [] with
    | none => rw [hr] at h; exact absurd (congrArg Prod.snd h) (show ¬ (40 : Int) = 0 by decide)
    | some ws =>
      rw [hr] at h
      have h1 := runW_ex e [] [] ws (by rw [List.append_nil]; exact hr)
      have h2 : [(e.ba, e.lev)] = ws := by simpa [runW] using h1.1
      have h3 : s = e.ba := by
        have := congrArg Prod.fst h
        rw [← h2] at this
        exact this.symm
      exact ⟨h3, by rw [h3]; exact h1.2⟩
end Go.Proofs.YtjonlmafhijcoaaDoor
