/- auto.search[pair]: its keys and its cells. -/
import Derived.Test.YtbfoamidnekoaabJj
import Derived.DeepKeys4
namespace Go.Proofs.Ytbfoamidnekoaab
open Go Go.RowKit Go.Lib Go.Maps
set_option linter.unusedVariables false

theorem Try.und_mapp : Try.prog.underlying 86 = some (.map 70 3) := by kernel_rfl
theorem Try.laid8 : laidOutB Try.prog = true := by kernel_rfl
theorem Try.keyT_pair : Try.prog.keyType 70 = true := by kernel_rfl
theorem Try.size_pair : Try.prog.cellsOf 70 = 2 := by kernel_rfl
theorem Try.size_int8 : Try.prog.cellsOf 3 = 1 := by kernel_rfl
theorem Try.tsize : ∃ n, Try.prog.types.size = n + 1 := ⟨Try.prog.types.size - 1, by have : 0 < Try.prog.types.size := of_decide_eq_true (by kernel_rfl); omega⟩
theorem Try.info_pair : (Try.prog.info? 70).map (fun i => (i.zero, i.size, i.bytes)) = some (some (.agg #[.int .i64 0, .int .i64 0]), 2, 16) := by kernel_rfl
theorem keyP : Keyed Try.prog 70 := Keyed.of_law (deep_law_laid Try.laid8 (m := 2) (by omega) (of_decide_eq_true (by kernel_rfl)) (by kernel_rfl) (by rw [Try.underlying70]))
abbrev prV (s : Nat × Nat) : Value := .agg #[.int .i64 (s.1 : Int), .int .i64 (s.2 : Int)]
abbrev ceP (s : Nat × Nat) : List Value := [.int .i64 (s.1 : Int), .int .i64 (s.2 : Int)]
def klP (s : Nat × Nat) : Lit := .string (keyBytes [.int .i64 (s.1 : Int), .int .i64 (s.2 : Int)])
theorem keyOf_two {P : Program} {k t : TypeId} {fs : Array Field} {f1 f2 : Field} (hk : P.underlying k = some (.struct fs)) (hfs : fs = #[f1, f2]) (n1 : f1.name ≠ "_") (n2 : f2.name ≠ "_") (o1 : f1.offset = 0) (o2 : f2.offset = 1) (t1 : f1.type = t) (t2 : f2.type = t)
    (ht : P.underlying t = some (.int .i64)) (ck : P.cellsOf k = 2) (ct : P.cellsOf t = 1) (hy : P.keyType k = true) {n : Nat} (hn : P.types.size = n + 1) {a b : Int} (ha : (Lit.int .i64 a).wf = true) (hb : (Lit.int .i64 b).wf = true) :
    keyOf P k (.agg #[.int .i64 a, .int .i64 b]) = some (.string (keyBytes [.int .i64 a, .int .i64 b])) := by
  subst hfs
  simp [keyOf, hk, hy, Value.formed, Value.cells, ck, hn, Program.keyLits, n1, n2, o1, o2, t1, t2, ct, ht, ha, hb]
theorem klP_of {s : Nat × Nat} (h1 : s.1 ≤ 9223372036854775807) (h2 : s.2 ≤ 9223372036854775807) : keyOf Try.prog 70 (prV s) = some (klP s) := by
  obtain ⟨n, hn⟩ := Try.tsize
  exact keyOf_two Try.underlying70 rfl (by decide) (by decide) rfl rfl rfl rfl Try.und_int Try.size_pair Try.size_int8 Try.keyT_pair hn (wfN h1) (wfN h2)
theorem klP_key (s : Nat × Nat) : WideAt.IsKeyLit (klP s) := trivial
theorem klP_inj {a b : Nat × Nat} (a1 : a.1 ≤ 9223372036854775807) (a2 : a.2 ≤ 9223372036854775807) (b1 : b.1 ≤ 9223372036854775807) (b2 : b.2 ≤ 9223372036854775807) (h : klP a = klP b) : a = b := by
  have := keyP.inj (klP_of a1 a2) (h ▸ klP_of b1 b2)
  simp [prV] at this
  exact Prod.ext (by omega) (by omega)
theorem flat_len (m : List (Nat × Nat)) : (m.flatMap ceP).length = m.length * 2 := by
  induction m with
  | nil => rfl
  | cons a m ih => rw [List.flatMap_cons, List.length_append, ih]; simp; omega
theorem flat_at : ∀ (m : List (Nat × Nat)) (i : Nat) (s : Nat × Nat), m[i]? = some s → (m.flatMap ceP)[i * 2]? = some (.int .i64 (s.1 : Int)) ∧ (m.flatMap ceP)[i * 2 + 1]? = some (.int .i64 (s.2 : Int))
  | [], i, s, h => by simp at h
  | a :: m, 0, s, h => by
    simp at h
    subst h
    simp [List.flatMap_cons]
  | a :: m, i + 1, s, h => by
    have := flat_at m i s (by simpa using h)
    rw [List.flatMap_cons]
    rw [show (i + 1) * 2 = (ceP a).length + i * 2 by simp; omega, List.getElem?_append_right (by omega), Nat.add_assoc, List.getElem?_append_right (by omega)]
    simpa using this
theorem pair_cell {w : World} {base : Nat} {a : Option Addr} {c : Nat} {m : List (Nat × Nat)} {i : Nat} {s : Nat × Nat} (h : w.ownsRow base 70 2 (.slice a m.length c) m.length (m.flatMap ceP)) (hi : m[i]? = some s) : ∃ g, a = some ⟨g, 0, none⟩ ∧ w.cell? ⟨g, i * 2, none⟩ = some (.int .i64 (s.1 : Int)) ∧ w.cell? ⟨g, i * 2 + 1, none⟩ = some (.int .i64 (s.2 : Int)) := by
  have hil := (List.getElem?_eq_some_iff.1 hi).1
  have h2 := h
  obtain ⟨f1, f2⟩ := flat_at m i s hi
  rcases h.2 with ⟨h1, h0⟩ | ⟨g, cap, cur, h1, _⟩
  · omega
  · simp only [Value.slice.injEq] at h1
    obtain ⟨rfl, _, rfl⟩ := h1
    refine ⟨g, rfl, ?_, ?_⟩
    · rw [h2.cellAt (i * 2) (by omega)]; exact f1
    · rw [h2.cellAt (i * 2 + 1) (by omega)]; exact f2
end Go.Proofs.Ytbfoamidnekoaab
