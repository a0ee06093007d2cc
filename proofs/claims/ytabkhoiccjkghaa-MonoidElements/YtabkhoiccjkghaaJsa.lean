/- append(v, xs...) where v is an empty row of the call's own. -/
import Derived.Test.YtabkhoiccjkghaaJc
import Derived.Laws.AppendOwnNone
namespace Go.Proofs.Ytabkhoiccjkghaa
open Go Go.RowKit Go.Lib
set_option linter.unusedVariables false

/-- append(v, xs...) where v is an empty row of the call's own, xs nil or not. -/
theorem wp_append_sr {P : Program} {w : World} {o : Oper} {a : Act} {K : Act → World → Prop} {Q : Exit → Act → World → Prop} (s x : Operand) (t : TypeId)
    (ho : o.op = .call { callee := .builtin .append, args := #[s, x], argTypes := #[t, t] })
    (base : Nat) (e : TypeId) (i : TypeInfo) (z : Value) (bytes : Nat) (ht : P.underlying t = some (.slice e)) (hi : P.info? e = some i) (hz : i.zero = some z)
    (hsize : i.size = 1) (hby : i.bytes = bytes) (hzs : z.cells.size = 1)
    (v : Value) (hs : a.eval s = v) (hown : w.ownsRow base e 1 v 0 []) (src : Option Addr) (c : Nat) (us : List Value) (hx : a.eval x = .slice src us.length c) (hsr : SR w src us) (hn : src = none → c = 0)
    (h1 : ∀ u ∈ us, u.oneCell' = true) (h63 : us.length ≤ maxLen) (hbytes : us.length * bytes ≤ 140737488355328) (hbase : base ≤ w.heap.size)
    (h : ∀ v' w', w'.ownsRow base e 1 v' us.length us → w.grownBy w' v.ownBlock → K (a.put o.dst v') w') : o.wp P a w K Q := by
  cases src with
  | none =>
    have hu : us = [] := by
      cases us with
      | nil => rfl
      | cons u us =>
        obtain ⟨g, o, e, _⟩ := hsr 0 u rfl
        cases e
    subst hu
    rw [hn rfl] at hx
    have hrun := run_append_owned_none (P := P) (w := w) base t o.type e i 1 ht hi v 0 [] hown
    unfold Oper.wp
    simp only [List.length_nil] at hx
    simp [execOp, ho, resolve, invoke, builtin, hs, hx, hrun, Result.andThen]
    exact h v w hown ⟨rfl, rfl, rfl, Nat.le_refl _, fun _ _ _ => rfl⟩
  | some ad =>
    refine wp_append_own w s x t ho base e i z 1 bytes ht hi hz hsize hby hzs (by decide) v 0 [] hs hown ad us.length c us hx (by simp) ?_ h1 (by simpa using h63) (by simpa using hbytes) hbase ?_
    · intro j u hj
      obtain ⟨g, o, e, hg, hc⟩ := hsr j u hj
      cases e
      rw [Addr.add_lit]
      exact hc
    · intro v' w' ho' hg' _
      exact h v' w' (by simpa using ho') hg'

end Go.Proofs.Ytabkhoiccjkghaa
