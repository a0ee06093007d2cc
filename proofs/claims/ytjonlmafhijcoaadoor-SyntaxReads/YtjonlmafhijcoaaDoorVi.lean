/- The document's reader: appending nodes; contracts of leaf and join. -/
import Derived.Test.YtjonlmafhijcoaaDoorVh
import Derived.Laws.AppendOwnNone
namespace Go.Proofs.YtjonlmafhijcoaaDoor
open Go Go.RowKit
set_option linter.unusedVariables false

theorem own_reads {w : World} {base : Nat} {v : Value} {ys : List Nd} (h : w.ownsRow base 56 2 v ys.length (ndC ys)) : v = .slice none 0 0 ∧ ys = [] ∨ ∃ g c, v = .slice (some ⟨g, 0, none⟩) ys.length c ∧ ∀ j u, (ndC ys)[j]? = some u → w.cell? ((⟨g, 0, none⟩ : Addr).add j) = some u := by
  obtain ⟨_, h2⟩ := id h
  rcases h2 with ⟨h1, h2⟩ | ⟨g, cp, cur, e1, r⟩
  · exact .inl ⟨h1, List.eq_nil_of_length_eq_zero h2⟩
  · subst e1
    exact .inr ⟨g, cp, rfl, nreads_cells (own_nreads h)⟩
theorem own_new1 (w : World) (a b : Value) : (w.alloc (.cells #[a, b] 56)).ownsRow w.heap.size 56 2 (.slice (some ⟨w.heap.size, 0, none⟩) 1 1) 1 [a, b] :=
  ⟨rfl, .inr ⟨w.heap.size, 1, #[a, b], rfl, Nat.le_refl _, heap_alloc_new w _, Nat.le_refl _, by unfold maxLen; omega, rfl, rfl⟩⟩
/-- 'append' of a row of nodes to a row of nodes of the call's own. -/
theorem append_nodes {w : World} {ops : Array Oper} {rest : List Oper} {o : Oper} {a : Act} {Q : Exit → Act → World → Prop} (hgd : o.guard = none) (s x : Operand)
    (ho : o.op = .call { callee := .builtin .append, args := #[s, x], argTypes := #[22, 22] })
    (base : Nat) (v : Value) (n : Nat) (xs : List Value) (hs : a.eval s = v) (hown : w.ownsRow base 56 2 v n xs)
    (base2 : Nat) (sv : Value) (ys : List Nd) (hx : a.eval x = sv) (hsrc : w.ownsRow base2 56 2 sv ys.length (ndC ys))
    (hn : n + ys.length ≤ 100000) (hbase : base ≤ w.heap.size)
    (h : ∀ v' w', w'.ownsRow base 56 2 v' (n + ys.length) (xs ++ ndC ys) → Below base w w' → wpList Tryd.prog ops Q rest (a.put o.dst v') w') : wpList Tryd.prog ops Q (o :: rest) a w := by
  obtain ⟨i0, hi0, hz0, hz1, hz2⟩ := info_parts Tryd.info_node
  rcases own_reads hsrc with ⟨rfl, rfl⟩ | ⟨g, c, rfl, hc⟩
  · refine wpList_append_own_none hgd s x 22 ho base 56 i0 2 Tryd.underlying22 hi0 v n xs hs hown hx ?_
    exact h v w (by simpa [ndC] using hown) (Below.refl _ _)
  · refine wpList_append_own w hgd s x 22 ho base 56 i0 (.agg #[.int .i64 0, .int .u8 0]) 2 16 Tryd.underlying22 hi0 hz0 hz1 hz2 rfl (by decide) v n xs hs hown ⟨g, 0, none⟩ ys.length c (ndC ys) hx (ndC_length ys) hc (ndC_one ys) (by unfold maxLen; omega) (by omega) hbase ?_
    intro v' w' ho' hg' _
    exact h v' w' ho' ((Below.refl base w).grown hg' hbase (fun k hk => (hown.lt k hk).1))

set_option maxHeartbeats 4000000 in
set_option maxRecDepth 100000 in
theorem rleaf_any (kd s : Int) (w : World) :
    Calls Tryd.prog 61 #[.int .i64 kd, .int .u8 s] w fun e w' => ∃ u, e = .returned u ∧ w'.ownsRow w.heap.size 56 2 u 1 (ndC [(kd, s)]) ∧ Below w.heap.size w w' := by
  have HO : Hid ((w.alloc (.cells #[.int .i64 kd, .int .u8 s] 56)).ownsRow w.heap.size 56 2 (.slice (some ⟨w.heap.size, 0, none⟩) 1 1) 1 (ndC [(kd, s)])) := own_new1 w _ _
  have HB : Hid (Below w.heap.size w (w.alloc (.cells #[.int .i64 kd, .int .u8 s] 56))) := (Below.refl _ _).alloc (Nat.le_refl _) _
  go_enter Tryd.func61, Tryd.ntmps61
  go_wp2_with fail
  go_ret
  exact ⟨_, rfl, HO.out, HB.out⟩

set_option maxHeartbeats 4000000 in
set_option maxRecDepth 100000 in
theorem rjoin_any (va vb : Value) (la lb : List Nd) (kd : Int) (w : World) (b1 b2 : Nat) (h1 : w.ownsRow b1 56 2 va la.length (ndC la)) (h2 : w.ownsRow b2 56 2 vb lb.length (ndC lb)) (hn : la.length + lb.length ≤ 90000) :
    Calls Tryd.prog 37 #[va, vb, .int .i64 kd] w fun e w' => ∃ u, e = .returned u ∧ w'.ownsRow w.heap.size 56 2 u (la ++ lb ++ [(kd, 0)]).length (ndC (la ++ lb ++ [(kd, 0)])) ∧ Below w.heap.size w w' := by
  have HO0 : Hid ((w.alloc (.cells #[] 56)).ownsRow w.heap.size 56 2 (.slice (some ⟨w.heap.size, 0, none⟩) 0 0) 0 []) := World.ownsRow_made w #[] 0 (Nat.le_refl _) (by unfold maxLen; omega) rfl
  have HB0 : Hid (Below w.heap.size w (w.alloc (.cells #[] 56))) := (Below.refl _ _).alloc (Nat.le_refl _) _
  have H1 : Hid ((w.alloc (.cells #[] 56)).ownsRow b1 56 2 va la.length (ndC la)) := own_below h1 HB0.out
  have H2 : Hid ((w.alloc (.cells #[] 56)).ownsRow b2 56 2 vb lb.length (ndC lb)) := own_below h2 HB0.out
  have H2w : Hid (w.ownsRow b2 56 2 vb lb.length (ndC lb)) := h2
  clear h1 h2
  go_enter Tryd.func37, Tryd.ntmps37
  go_wp2_with (at_builtin; refine append_nodes rfl _ _ rfl w.heap.size _ _ _ rfl HO0.out b1 _ la rfl H1.out (by omega) (by simp) ?_)
  intro v2 w2 ho2 hb2
  have ho2 : w2.ownsRow w.heap.size 56 2 v2 la.length (ndC la) := by simpa using ho2
  have HO2 : Hid (w2.ownsRow w.heap.size 56 2 v2 la.length (ndC la)) := ho2
  have HB2 : Hid (Below w.heap.size w w2) := HB0.out.trans hb2
  have H22 : Hid (w2.ownsRow b2 56 2 vb lb.length (ndC lb)) := own_below H2w.out HB2.out
  have hs2 := HB2.out.size
  clear ho2 hb2
  go_wp2_with (at_builtin; refine append_nodes rfl _ _ rfl w.heap.size _ _ _ rfl HO2.out b2 _ lb rfl H22.out (by omega) hs2 ?_)
  intro v3 w3 ho3 hb3
  have HO3 : Hid (w3.ownsRow w.heap.size 56 2 v3 (la.length + lb.length) (ndC la ++ ndC lb)) := ho3
  have HB3 : Hid (Below w.heap.size w w3) := HB2.out.trans hb3
  have hs3 := HB3.out.size
  have HN : Hid ((w3.alloc (.cells #[.int .i64 kd, .int .u8 0] 56)).ownsRow w3.heap.size 56 2 (.slice (some ⟨w3.heap.size, 0, none⟩) [(kd, (0 : Int))].length 1) [(kd, (0 : Int))].length (ndC [(kd, 0)])) := own_new1 w3 _ _
  clear ho3 hb3 HO2 HB2 H22
  go_wp2_with (at_builtin; refine append_nodes rfl _ _ rfl w.heap.size _ _ _ rfl (HO3.out.alloc _) w3.heap.size _ [(kd, 0)] rfl HN.out (by simp; omega) (by simp; omega) ?_)
  intro v4 w4 ho4 hb4
  have HO4 : Hid (w4.ownsRow w.heap.size 56 2 v4 (la ++ lb ++ [(kd, 0)]).length (ndC (la ++ lb ++ [(kd, 0)]))) := by
    show World.ownsRow _ _ _ _ _ _ _
    rw [ndC_append, ndC_append, List.append_assoc (ndC la), List.length_append, List.length_append]
    exact ho4
  have HB4 : Hid (Below w.heap.size w w4) := (HB3.out.alloc hs3 _).trans hb4
  clear ho4 hb4
  go_wp2_with fail
  go_ret
  exact ⟨_, rfl, HO4.out, HB4.out⟩
end Go.Proofs.YtjonlmafhijcoaaDoor
