/- equal: pairs as keys; what unmet's tiles know (pure). -/
import Derived.Test.YtceoceecgekkjaaLh
import Derived.DeepKeys4
namespace Go.Proofs.Ytceoceecgekkjaa
open Go Go.RowKit Go.Lib Go.Maps
set_option linter.unusedVariables false

theorem Try.und_mapE : Try.prog.underlying 86 = some (.map 77 3) := by kernel_rfl
theorem Try.laidE : laidOutB Try.prog = true := by kernel_rfl
theorem Try.keyT_pairE : Try.prog.keyType 77 = true := by kernel_rfl
theorem Try.size_pairE : Try.prog.cellsOf 77 = 2 := by kernel_rfl
theorem Try.size_u16E : Try.prog.cellsOf 75 = 1 := by kernel_rfl
theorem Try.und_u16E : Try.prog.underlying 75 = some (.int .u16) := by kernel_rfl
theorem Try.tsizeE : ∃ n, Try.prog.types.size = n + 1 := ⟨Try.prog.types.size - 1, by have : 0 < Try.prog.types.size := of_decide_eq_true (by kernel_rfl); omega⟩
theorem keyE : Keyed Try.prog 77 := Keyed.of_law (deep_law_laid Try.laidE (m := 2) (by omega) (of_decide_eq_true (by kernel_rfl)) (by kernel_rfl) (by rw [Try.underlying77]))
abbrev peV (x y : Nat) : Value := .agg #[.int .u16 (x : Int), .int .u16 (y : Int)]
def klE (s : Nat × Nat) : Lit := .string (keyBytes [.int .u16 (s.1 : Int), .int .u16 (s.2 : Int)])
theorem keyOf_two16 {P : Program} {k t : TypeId} {fs : Array Field} {f1 f2 : Field} (hk : P.underlying k = some (.struct fs)) (hfs : fs = #[f1, f2]) (n1 : f1.name ≠ "_") (n2 : f2.name ≠ "_") (o1 : f1.offset = 0) (o2 : f2.offset = 1) (t1 : f1.type = t) (t2 : f2.type = t)
    (ht : P.underlying t = some (.int .u16)) (ck : P.cellsOf k = 2) (ct : P.cellsOf t = 1) (hy : P.keyType k = true) {n : Nat} (hn : P.types.size = n + 1) {a b : Int} (ha : (Lit.int .u16 a).wf = true) (hb : (Lit.int .u16 b).wf = true) :
    keyOf P k (.agg #[.int .u16 a, .int .u16 b]) = some (.string (keyBytes [.int .u16 a, .int .u16 b])) := by
  subst hfs
  simp [keyOf, hk, hy, Value.formed, Value.cells, ck, hn, Program.keyLits, n1, n2, o1, o2, t1, t2, ct, ht, ha, hb]
theorem wf16 {s : Nat} (h : s ≤ 65535) : (Lit.int .u16 (s : Int)).wf = true := by
  exact WalkArith.wf_u16 (by omega)
theorem klE_of {s : Nat × Nat} (h1 : s.1 ≤ 65535) (h2 : s.2 ≤ 65535) : keyOf Try.prog 77 (peV s.1 s.2) = some (klE s) := by
  obtain ⟨n, hn⟩ := Try.tsizeE
  exact keyOf_two16 Try.underlying77 rfl (by decide) (by decide) rfl rfl rfl rfl Try.und_u16E Try.size_pairE Try.size_u16E Try.keyT_pairE hn (wf16 h1) (wf16 h2)
theorem klE_key (s : Nat × Nat) : WideAt.IsKeyLit (klE s) := trivial
theorem klE_inj {a b : Nat × Nat} (a1 : a.1 ≤ 65535) (a2 : a.2 ≤ 65535) (b1 : b.1 ≤ 65535) (b2 : b.2 ≤ 65535) (h : klE a = klE b) : a = b := by
  have := keyE.inj (klE_of a1 a2) (h ▸ klE_of b1 b2)
  simp [peV] at this
  exact Prod.ext (by omega) (by omega)

/-- What the tiles tell: C the corners in the order of their tiles, T the tiles' rows, P the pairs that were met. -/
structure UM (P : List (Nat × Nat)) (C : List (Nat × Nat)) (T : List Nat) : Prop where
  len : T.length = C.length * 64
  lt : ∀ j, T.getD j 0 < 18446744073709551616
  nd : C.Nodup
  ok : ∀ c ∈ C, c.1 < 64 ∧ c.2 < 64
  mem : ∀ x y, x < 4096 → y < 4096 → ((x, y) ∈ P ↔ ∃ j, C[j]? = some (x / 64, y / 64) ∧ (T.getD (j * 64 + x % 64) 0).testBit (y % 64) = true)
theorem UM.start : UM [] [] [] := ⟨rfl, fun j => by simp, List.nodup_nil, fun c h => by simp at h, fun x y _ _ => by simp⟩
theorem UM.few {P C : List (Nat × Nat)} {T : List Nat} (h : UM P C T) : C.length ≤ 4096 := by
  have := nodup_small 4096 (C.map fun c => c.1 * 64 + c.2) (by
    rw [List.Nodup, List.pairwise_map]
    refine List.Pairwise.imp_of_mem (fun {a b} ha hb hne e => ?_) h.nd
    have h1 := h.ok a ha
    have h2 := h.ok b hb
    exact hne (Prod.ext (by omega) (by omega))) (fun z hz => by
    obtain ⟨c, hc, rfl⟩ := List.mem_map.1 hz
    have := h.ok c hc
    omega)
  simpa using this
theorem UM.tile {P C : List (Nat × Nat)} {T : List Nat} (h : UM P C T) {c : Nat × Nat} (hc : c ∉ C) (h1 : c.1 < 64) (h2 : c.2 < 64) : UM P (C ++ [c]) (T ++ List.replicate 64 0) := by
  have hg : ∀ j, (T ++ List.replicate 64 0).getD j 0 = T.getD j 0 := fun j => by
    rw [List.getD_eq_getElem?_getD, List.getD_eq_getElem?_getD, List.getElem?_append]
    split
    · rfl
    · rename_i q
      rw [List.getElem?_eq_none (l := T) (by omega), List.getElem?_replicate]
      split <;> rfl
  refine ⟨by simp [h.len]; omega, fun j => by rw [hg]; exact h.lt j, ?_, fun a ha => ?_, fun x y hx hy => ?_⟩
  · rw [List.nodup_append]
    refine ⟨h.nd, by simp, fun a ha b hb e => ?_⟩
    simp at hb
    subst hb
    subst e
    exact hc ha
  · rcases List.mem_append.1 ha with q | q
    · exact h.ok a q
    · simp at q; subst q; exact ⟨h1, h2⟩
  · rw [h.mem x y hx hy]
    constructor
    · rintro ⟨j, q1, q2⟩
      exact ⟨j, by rw [List.getElem?_append_left (List.getElem?_eq_some_iff.1 q1).1]; exact q1, by rw [hg]; exact q2⟩
    · rintro ⟨j, q1, q2⟩
      rw [hg] at q2
      by_cases z : j < C.length
      · rw [List.getElem?_append_left z] at q1
        exact ⟨j, q1, q2⟩
      · rw [List.getD_eq_getElem?_getD, List.getElem?_eq_none (by rw [h.len]; omega)] at q2
        simp at q2
theorem UM.mark {P C : List (Nat × Nat)} {T : List Nat} (h : UM P C T) {x y j : Nat} (hx : x < 4096) (hy : y < 4096) (hj : C[j]? = some (x / 64, y / 64)) (P' : List (Nat × Nat)) (hP : ∀ q, q ∈ P' ↔ q ∈ P ∨ q = (x, y)) : UM P' C (T.set (j * 64 + x % 64) (T.getD (j * 64 + x % 64) 0 ||| 2 ^ (y % 64))) := by
  have hjl := (List.getElem?_eq_some_iff.1 hj).1
  have hl : j * 64 + x % 64 < T.length := by rw [h.len]; omega
  refine ⟨by simp [h.len], fun i => ?_, h.nd, h.ok, fun x' y' hx' hy' => ?_⟩
  · rw [getD_set hl]
    split
    · exact Nat.or_lt_two_pow (n := 64) (h.lt _) (Nat.pow_lt_pow_right (by omega) (by omega))
    · exact h.lt i
  · rw [hP, h.mem x' y' hx' hy']
    constructor
    · rintro (⟨i, q1, q2⟩ | q)
      · refine ⟨i, q1, ?_⟩
        rw [getD_set hl]
        split
        · rename_i e
          rw [Nat.testBit_or, e, q2]; rfl
        · exact q2
      · simp only [Prod.mk.injEq] at q
        obtain ⟨rfl, rfl⟩ := q
        refine ⟨j, hj, ?_⟩
        rw [getD_set hl, if_pos rfl, Nat.testBit_or, Nat.testBit_two_pow_self, Bool.or_true]
    · rintro ⟨i, q1, q2⟩
      rw [getD_set hl] at q2
      split at q2
      · rename_i e
        rw [Nat.testBit_or, Bool.or_eq_true] at q2
        rcases q2 with q2 | q2
        · exact .inl ⟨i, q1, by rw [← e]; exact q2⟩
        · refine .inr ?_
          have e1 : j = i := by omega
          have e2 : x % 64 = x' % 64 := by omega
          rw [Nat.testBit_two_pow] at q2
          have e3 : y % 64 = y' % 64 := by simpa using q2
          rw [← e1, hj, Option.some.injEq, Prod.mk.injEq] at q1
          exact Prod.ext (by show x' = x; omega) (by show y' = y; omega)
      · exact .inl ⟨i, q1, q2⟩
theorem UM.bit {P C : List (Nat × Nat)} {T : List Nat} (h : UM P C T) {x y j : Nat} (hx : x < 4096) (hy : y < 4096) (hj : C[j]? = some (x / 64, y / 64)) : (T.getD (j * 64 + x % 64) 0 &&& 2 ^ (y % 64) = 0) ↔ (x, y) ∉ P := by
  rw [h.mem x y hx hy]
  constructor
  · rintro e ⟨i, q1, q2⟩
    have : i = j := by
      obtain ⟨z1, e1⟩ := List.getElem?_eq_some_iff.1 q1
      obtain ⟨z2, e2⟩ := List.getElem?_eq_some_iff.1 hj
      exact (List.getElem_inj h.nd).1 (e1.trans e2.symm)
    subst this
    have h2 : (T.getD (i * 64 + x % 64) 0 &&& 2 ^ (y % 64)).testBit (y % 64) = true := by rw [Nat.testBit_and, q2, Nat.testBit_two_pow_self]; rfl
    rw [e] at h2
    simp at h2
  · intro q
    apply Nat.eq_of_testBit_eq
    intro k
    rw [Nat.testBit_and, Nat.zero_testBit, Nat.testBit_two_pow]
    by_cases e : y % 64 = k
    · subst e
      cases hb : (T.getD (j * 64 + x % 64) 0).testBit (y % 64) with
      | false => rfl
      | true => exact absurd ⟨j, hj, hb⟩ q
    · simp [e]
end Go.Proofs.Ytceoceecgekkjaa
