/- equal: pairs as keys; what unmet's tiles know (pure). equal: unmet's function. equal: the forest of states that hang together (trees, parted), in memory. equal: join, parted. equal: step, lastWord. equal: lastWord. -/
import Derived.Test.YtggheiblgghpkaaLh
import Derived.DeepKeys4
import Derived.Deep.RegionHeld3
import Derived.Deep.DeepCutAuto
import Derived.Test.YtggheiblgghpkaaLe
import Derived.Laws.EntriesVeiled
import Derived.Test.YtggheiblgghpkaaLm
namespace Go.Proofs.Ytggheiblgghpkaa
open Go Go.RowKit Go.Lib Go.Maps
set_option linter.unusedVariables false

theorem Try.und_mapE : Try.prog.underlying 86 = some (.map 77 3) := by kernel_rfl
theorem Try.laidE : laidOutB Try.prog = true := by kernel_rfl
theorem Try.keyT_pairE : Try.prog.keyType 77 = true := by kernel_rfl
theorem Try.size_pairE : Try.prog.cellsOf 77 = 2 := by kernel_rfl
theorem Try.size_u16E : Try.prog.cellsOf 75 = 1 := by kernel_rfl
theorem Try.und_u16E : Try.prog.underlying 75 = some (.int .u16) := by kernel_rfl
theorem Try.tsizeE : ∃ n, Try.prog.types.size = n + 1 := ⟨Try.prog.types.size - 1, by have : 0 < Try.prog.types.size := of_decide_eq_true (by kernel_rfl); omega⟩
theorem keyE : Keyed Try.prog 77 := Keyed.of_law (deep_law_laid Try.laidE (m := 2) (by omega) (of_decide_eq_true (by kernel_rfl)) (by kernel_rfl) (by rw [Try.underlying77]))
abbrev peV (x y : Nat) : Value := .agg #[.int .u16 (x : Int), .int .u16 (y : Int)]
def klE (s : Nat × Nat) : Lit := .string (keyBytes [.int .u16 (s.1 : Int), .int .u16 (s.2 : Int)])
theorem keyOf_two16 {P : Program} {k t : TypeId} {fs : Array Field} {f1 f2 : Field} (hk : P.underlying k = some (.struct fs)) (hfs : fs = #[f1, f2]) (n1 : f1.name ≠ "_") (n2 : f2.name ≠ "_") (o1 : f1.offset = 0) (o2 : f2.offset = 1) (t1 : f1.type = t) (t2 : f2.type = t)
    (ht : P.underlying t = some (.int .u16)) (ck : P.cellsOf k = 2) (ct : P.cellsOf t = 1) (hy : P.keyType k = true) {n : Nat} (hn : P.types.size = n + 1) {a b : Int} (ha : (Lit.int .u16 a).wf = true) (hb : (Lit.int .u16 b).wf = true) :
    keyOf P k (.agg #[.int .u16 a, .int .u16 b]) = some (.string (keyBytes [.int .u16 a, .int .u16 b])) := by
  subst hfs
  simp [keyOf, hk, hy, Value.formed, Value.cells, ck, hn, Program.keyLits, n1, n2, o1, o2, t1, t2, ct, ht, ha, hb]
theorem wf16 {s : Nat} (h : s ≤ 65535) : (Lit.int .u16 (s : Int)).wf = true := by
  exact WalkArith.wf_u16 (by omega)
theorem klE_of {s : Nat × Nat} (h1 : s.1 ≤ 65535) (h2 : s.2 ≤ 65535) : keyOf Try.prog 77 (peV s.1 s.2) = some (klE s) := by
  obtain ⟨n, hn⟩ := Try.tsizeE
  exact keyOf_two16 Try.underlying77 rfl (by decide) (by decide) rfl rfl rfl rfl Try.und_u16E Try.size_pairE Try.size_u16E Try.keyT_pairE hn (wf16 h1) (wf16 h2)
theorem klE_key (s : Nat × Nat) : WideAt.IsKeyLit (klE s) := trivial
theorem klE_inj {a b : Nat × Nat} (a1 : a.1 ≤ 65535) (a2 : a.2 ≤ 65535) (b1 : b.1 ≤ 65535) (b2 : b.2 ≤ 65535) (h : klE a = klE b) : a = b := by
  have := keyE.inj (klE_of a1 a2) (h ▸ klE_of b1 b2)
  simp [peV] at this
  exact Prod.ext (by omega) (by omega)

/-- What the tiles tell: C the corners in the order of their tiles, T the tiles' rows, P the pairs that were met. -/
structure UM (P : List (Nat × Nat)) (C : List (Nat × Nat)) (T : List Nat) : Prop where
  len : T.length = C.length * 64
  lt : ∀ j, T.getD j 0 < 18446744073709551616
  nd : C.Nodup
  ok : ∀ c ∈ C, c.1 < 64 ∧ c.2 < 64
  mem : ∀ x y, x < 4096 → y < 4096 → ((x, y) ∈ P ↔ ∃ j, C[j]? = some (x / 64, y / 64) ∧ (T.getD (j * 64 + x % 64) 0).testBit (y % 64) = true)
theorem UM.start : UM [] [] [] := ⟨rfl, fun j => by simp, List.nodup_nil, fun c h => by simp at h, fun x y _ _ => by simp⟩
theorem UM.few {P C : List (Nat × Nat)} {T : List Nat} (h : UM P C T) : C.length ≤ 4096 := by
  have := nodup_small 4096 (C.map fun c => c.1 * 64 + c.2) (by
    rw [List.Nodup, List.pairwise_map]
    refine List.Pairwise.imp_of_mem (fun {a b} ha hb hne e => ?_) h.nd
    have h1 := h.ok a ha
    have h2 := h.ok b hb
    exact hne (Prod.ext (by omega) (by omega))) (fun z hz => by
    obtain ⟨c, hc, rfl⟩ := List.mem_map.1 hz
    have := h.ok c hc
    omega)
  simpa using this
theorem UM.tile {P C : List (Nat × Nat)} {T : List Nat} (h : UM P C T) {c : Nat × Nat} (hc : c ∉ C) (h1 : c.1 < 64) (h2 : c.2 < 64) : UM P (C ++ [c]) (T ++ List.replicate 64 0) := by
  have hg : ∀ j, (T ++ List.replicate 64 0).getD j 0 = T.getD j 0 := fun j => by
    rw [List.getD_eq_getElem?_getD, List.getD_eq_getElem?_getD, List.getElem?_append]
    split
    · rfl
    · rename_i q
      rw [List.getElem?_eq_none (l := T) (by omega), List.getElem?_replicate]
      split <;> rfl
  refine ⟨by simp [h.len]; omega, fun j => by rw [hg]; exact h.lt j, ?_, fun a ha => ?_, fun x y hx hy => ?_⟩
  · rw [List.nodup_append]
    refine ⟨h.nd, by simp, fun a ha b hb e => ?_⟩
    simp at hb
    subst hb
    subst e
    exact hc ha
  · rcases List.mem_append.1 ha with q | q
    · exact h.ok a q
    · simp at q; subst q; exact ⟨h1, h2⟩
  · rw [h.mem x y hx hy]
    constructor
    · rintro ⟨j, q1, q2⟩
      exact ⟨j, by rw [List.getElem?_append_left (List.getElem?_eq_some_iff.1 q1).1]; exact q1, by rw [hg]; exact q2⟩
    · rintro ⟨j, q1, q2⟩
      rw [hg] at q2
      by_cases z : j < C.length
      · rw [List.getElem?_append_left z] at q1
        exact ⟨j, q1, q2⟩
      · rw [List.getD_eq_getElem?_getD, List.getElem?_eq_none (by rw [h.len]; omega)] at q2
        simp at q2
theorem UM.mark {P C : List (Nat × Nat)} {T : List Nat} (h : UM P C T) {x y j : Nat} (hx : x < 4096) (hy : y < 4096) (hj : C[j]? = some (x / 64, y / 64)) (P' : List (Nat × Nat)) (hP : ∀ q, q ∈ P' ↔ q ∈ P ∨ q = (x, y)) : UM P' C (T.set (j * 64 + x % 64) (T.getD (j * 64 + x % 64) 0 ||| 2 ^ (y % 64))) := by
  have hjl := (List.getElem?_eq_some_iff.1 hj).1
  have hl : j * 64 + x % 64 < T.length := by rw [h.len]; omega
  refine ⟨by simp [h.len], fun i => ?_, h.nd, h.ok, fun x' y' hx' hy' => ?_⟩
  · rw [getD_set hl]
    split
    · exact Nat.or_lt_two_pow (n := 64) (h.lt _) (Nat.pow_lt_pow_right (by omega) (by omega))
    · exact h.lt i
  · rw [hP, h.mem x' y' hx' hy']
    constructor
    · rintro (⟨i, q1, q2⟩ | q)
      · refine ⟨i, q1, ?_⟩
        rw [getD_set hl]
        split
        · rename_i e
          rw [Nat.testBit_or, e, q2]; rfl
        · exact q2
      · simp only [Prod.mk.injEq] at q
        obtain ⟨rfl, rfl⟩ := q
        refine ⟨j, hj, ?_⟩
        rw [getD_set hl, if_pos rfl, Nat.testBit_or, Nat.testBit_two_pow_self, Bool.or_true]
    · rintro ⟨i, q1, q2⟩
      rw [getD_set hl] at q2
      split at q2
      · rename_i e
        rw [Nat.testBit_or, Bool.or_eq_true] at q2
        rcases q2 with q2 | q2
        · exact .inl ⟨i, q1, by rw [← e]; exact q2⟩
        · refine .inr ?_
          have e1 : j = i := by omega
          have e2 : x % 64 = x' % 64 := by omega
          rw [Nat.testBit_two_pow] at q2
          have e3 : y % 64 = y' % 64 := by simpa using q2
          rw [← e1, hj, Option.some.injEq, Prod.mk.injEq] at q1
          exact Prod.ext (by show x' = x; omega) (by show y' = y; omega)
      · exact .inl ⟨i, q1, q2⟩
theorem UM.bit {P C : List (Nat × Nat)} {T : List Nat} (h : UM P C T) {x y j : Nat} (hx : x < 4096) (hy : y < 4096) (hj : C[j]? = some (x / 64, y / 64)) : (T.getD (j * 64 + x % 64) 0 &&& 2 ^ (y % 64) = 0) ↔ (x, y) ∉ P := by
  rw [h.mem x y hx hy]
  constructor
  · rintro e ⟨i, q1, q2⟩
    have : i = j := by
      obtain ⟨z1, e1⟩ := List.getElem?_eq_some_iff.1 q1
      obtain ⟨z2, e2⟩ := List.getElem?_eq_some_iff.1 hj
      exact (List.getElem_inj h.nd).1 (e1.trans e2.symm)
    subst this
    have h2 : (T.getD (i * 64 + x % 64) 0 &&& 2 ^ (y % 64)).testBit (y % 64) = true := by rw [Nat.testBit_and, q2, Nat.testBit_two_pow_self]; rfl
    rw [e] at h2
    simp at h2
  · intro q
    apply Nat.eq_of_testBit_eq
    intro k
    rw [Nat.testBit_and, Nat.zero_testBit, Nat.testBit_two_pow]
    by_cases e : y % 64 = k
    · subst e
      cases hb : (T.getD (j * 64 + x % 64) 0).testBit (y % 64) with
      | false => rfl
      | true => exact absurd ⟨j, hj, hb⟩ q
    · simp [e]
end Go.Proofs.Ytggheiblgghpkaa

namespace Go.Proofs.Ytggheiblgghpkaa
open Go Go.RowKit Go.Lib Go.Maps
set_option linter.unusedVariables false
attribute [-instance] instBEqProd

/-- What a function that tells which pairs are fresh leaves: all blocks but its own stay. -/
structure FK (O O' : Nat → Prop) (w w' : World) : Prop where
  os : w'.os = w.os
  tape : w'.tape = w.tape
  output : w'.output = w.output
  size : w.heap.size ≤ w'.heap.size
  keep : ∀ b, b < w.heap.size → ¬ O b → w'.heap[b]? = w.heap[b]?
  own : ∀ b, O' b → O b ∨ w.heap.size ≤ b
def q64 (T : List Nat) : List Value := T.map fun (n : Nat) => Value.int .u64 ((n : Nat) : Int)
theorem q64_len (T : List Nat) : (q64 T).length = T.length := by simp [q64]
theorem q64_get {T : List Nat} {i : Nat} (h : i < T.length) : (q64 T)[i]? = some (.int .u64 (T.getD i 0 : Nat)) := by simp [q64, h]
theorem q64_set (T : List Nat) (i x : Nat) : q64 (T.set i x) = (q64 T).set i (.int .u64 (x : Int)) := by unfold q64; rw [List.map_set]
theorem q64_append (a b : List Nat) : q64 (a ++ b) = q64 a ++ q64 b := by simp [q64]
theorem or_u64' (a b : Nat) (ha : a < 18446744073709551616) (hb : b < 18446744073709551616) : bits .or .u64 (a : Int) (b : Int) = ((a ||| b : Nat) : Int) := bits_or_u64_nat a b ha hb
theorem and_u64' (a b : Nat) (ha : a < 18446744073709551616) (hb : b < 18446744073709551616) : bits .and .u64 (a : Int) (b : Int) = ((a &&& b : Nat) : Int) := bits_and_u64_nat a b ha hb
def okE (c : Nat × Nat) : Prop := c.1 < 64 ∧ c.2 < 64
theorem mem_upd {P : List (Nat × Nat)} {x y : Nat} (q : Nat × Nat) : q ∈ (if decide ((x, y) ∉ P) then P ++ [(x, y)] else P) ↔ q ∈ P ∨ q = (x, y) := by
  by_cases h : (x, y) ∈ P
  · rw [if_neg (by simpa using h)]
    constructor
    · exact fun z => .inl z
    · rintro (z | z)
      · exact z
      · rw [z]; exact h
  · rw [if_pos (by simpa using h)]
    simp
theorem Try.info_tile : (Try.prog.info? 91).map (fun i => (i.zero, i.size, i.bytes)) = some (some (.agg (#[.int .u64 0, .int .u64 0, .int .u64 0, .int .u64 0, .int .u64 0, .int .u64 0, .int .u64 0, .int .u64 0, .int .u64 0, .int .u64 0, .int .u64 0, .int .u64 0, .int .u64 0, .int .u64 0, .int .u64 0, .int .u64 0, .int .u64 0, .int .u64 0, .int .u64 0, .int .u64 0, .int .u64 0, .int .u64 0, .int .u64 0, .int .u64 0, .int .u64 0, .int .u64 0, .int .u64 0, .int .u64 0, .int .u64 0, .int .u64 0, .int .u64 0, .int .u64 0, .int .u64 0, .int .u64 0, .int .u64 0, .int .u64 0, .int .u64 0, .int .u64 0, .int .u64 0, .int .u64 0, .int .u64 0, .int .u64 0, .int .u64 0, .int .u64 0, .int .u64 0, .int .u64 0, .int .u64 0, .int .u64 0, .int .u64 0, .int .u64 0, .int .u64 0, .int .u64 0, .int .u64 0, .int .u64 0, .int .u64 0, .int .u64 0, .int .u64 0, .int .u64 0, .int .u64 0, .int .u64 0, .int .u64 0, .int .u64 0, .int .u64 0, .int .u64 0] : Array Value)), 64, 512) := by kernel_rfl
/-- The map of corners and the tiles in memory; n: how many tiles. -/
structure UX (mb mo tb : Nat) (C : List (Nat × Nat)) (n : Nat) (T : List Nat) (D : DataW Unit) (vt : Value) (w : World) : Prop where
  mi : MI klE okE D C
  m : w.heap[mb]? = some (.cells #[.map (some mo)] 86 (0, 0))
  t : w.heap[tb]? = some (.cells #[vt] 87 (0, 0))
  mp : w.ownsMap Try.prog 77 (plainElem Try.prog 3) mo C.length D
  row : w.ownsRow 0 91 64 vt n (q64 T)
theorem UX.keep {mb mo tb : Nat} {C : List (Nat × Nat)} {n : Nat} {T : List Nat} {D : DataW Unit} {vt : Value} {w w' : World} (h : UX mb mo tb C n T D vt w) (hk : ∀ b, (b = mb ∨ b = mo ∨ b = tb ∨ vt.ownBlock = some b) → w'.heap[b]? = w.heap[b]?) : UX mb mo tb C n T D vt w' :=
  ⟨h.mi, (hk mb (.inl rfl)).trans h.m, (hk tb (.inr (.inr (.inl rfl)))).trans h.t, map_keep h.mp (hk mo (.inr (.inl rfl))), own_keep h.row (fun b cur hb _ => hk b (.inr (.inr (.inr hb))))⟩
theorem UX.drew' {mb mo tb : Nat} {C : List (Nat × Nat)} {n : Nat} {T : List Nat} {D : DataW Unit} {vt : Value} {w : World} {a : Addr} {v : Value} (h : UX mb mo tb C n T D vt (w.setCell a v)) : UX mb mo tb C n T D vt (w.drew.setCell a v) := h.keep (fun _ _ => rfl)
theorem UX.below {mb mo tb : Nat} {C : List (Nat × Nat)} {n : Nat} {T : List Nat} {D : DataW Unit} {vt : Value} {w w' : World} (h : UX mb mo tb C n T D vt w) (hb : Below w.heap.size w w') : UX mb mo tb C n T D vt w' := h.keep (fun b hbb => hb.block b (by
  rcases hbb with rfl | rfl | rfl | q
  · exact (Array.getElem?_eq_some_iff.1 h.m).1
  · exact h.mp.lt
  · exact (Array.getElem?_eq_some_iff.1 h.t).1
  · exact (h.row.lt b q).2))
theorem UX.put {mb mo tb : Nat} {C : List (Nat × Nat)} {n : Nat} {T : List Nat} {D : DataW Unit} {vt : Value} {w w' : World} (h : UX mb mo tb C n T D vt w) {c : Nat × Nat} (hc : c ∉ C) (hok : okE c) (hmo : w'.ownsMap Try.prog 77 (plainElem Try.prog 3) mo (C.length + 1) (D.put (klE c) (.lit (.int .i64 (C.length : Nat))))) (hg : w.grownBy w' (some mo)) : UX mb mo tb (C ++ [c]) n T (D.put (klE c) (.lit (.int .i64 (C.length : Nat)))) vt w' := by
  obtain ⟨es, clock, hmb⟩ := map_blk h.mp
  have kc : ∀ (b : Nat) (cur : Array Value) (e : TypeId), w.heap[b]? = some (Obj.cells cur e (0, 0)) → w'.heap[b]? = w.heap[b]? := fun b cur e hb => hg.block b (Array.getElem?_eq_some_iff.1 hb).1 (fun e1 => by simp at e1; rw [e1, hmb] at hb; cases hb)
  refine ⟨h.mi.put (fun a b ha hb e => klE_inj (by have := ha.1; omega) (by have := ha.2; omega) (by have := hb.1; omega) (by have := hb.2; omega) e) h.mp.isMap (klE_key c) hok hc, (kc _ _ _ h.m).trans h.m, (kc _ _ _ h.t).trans h.t, by simpa using hmo, own_keep h.row (fun b cur _ hb => kc b cur _ hb)⟩
theorem UX.tile {mb mo tb : Nat} {C : List (Nat × Nat)} {n : Nat} {T : List Nat} {D : DataW Unit} {vt vt' : Value} {w w2 : World} {o : Obj} (h : UX mb mo tb C n T D vt w) (hg : (w.alloc o).grownBy w2 vt.ownBlock) (ho : w2.ownsRow 0 91 64 vt' (n + 1) (q64 T ++ (#[.int .u64 0, .int .u64 0, .int .u64 0, .int .u64 0, .int .u64 0, .int .u64 0, .int .u64 0, .int .u64 0, .int .u64 0, .int .u64 0, .int .u64 0, .int .u64 0, .int .u64 0, .int .u64 0, .int .u64 0, .int .u64 0, .int .u64 0, .int .u64 0, .int .u64 0, .int .u64 0, .int .u64 0, .int .u64 0, .int .u64 0, .int .u64 0, .int .u64 0, .int .u64 0, .int .u64 0, .int .u64 0, .int .u64 0, .int .u64 0, .int .u64 0, .int .u64 0, .int .u64 0, .int .u64 0, .int .u64 0, .int .u64 0, .int .u64 0, .int .u64 0, .int .u64 0, .int .u64 0, .int .u64 0, .int .u64 0, .int .u64 0, .int .u64 0, .int .u64 0, .int .u64 0, .int .u64 0, .int .u64 0, .int .u64 0, .int .u64 0, .int .u64 0, .int .u64 0, .int .u64 0, .int .u64 0, .int .u64 0, .int .u64 0, .int .u64 0, .int .u64 0, .int .u64 0, .int .u64 0, .int .u64 0, .int .u64 0, .int .u64 0, .int .u64 0] : Array Value).toList)) : w2.heap[tb]? = some (.cells #[vt] 87 (0, 0)) ∧ UX mb mo tb C (n + 1) (T ++ List.replicate 64 0) D vt' (w2.setCell ⟨tb, 0, none⟩ vt') := by
  have kt : ∀ (b : Nat) (O : Obj), w.heap[b]? = some O → (∀ cur : Array Value, O ≠ Obj.cells cur 91 (0, 0)) → w2.heap[b]? = w.heap[b]? := fun b O hb hne => by
    have hlt := (Array.getElem?_eq_some_iff.1 hb).1
    rw [hg.block b (by simp; omega) (fun e => by
      obtain ⟨_, cur, hc⟩ := own_blk h.row e.symm
      rw [hc, Option.some.injEq] at hb
      exact hne cur hb.symm)]
    exact (below_new w o).block b hlt
  have ht := (kt _ _ h.t (fun cur e => by injection e with _ e _; cases e)).trans h.t
  obtain ⟨es, clock, hmb⟩ := map_blk h.mp
  have hm2 := (kt _ _ h.m (fun cur e => by injection e with _ e _; cases e)).trans h.m
  have hmo2 := kt _ _ hmb (fun cur e => by cases e)
  have so : ∀ (b : Nat) (O : Obj), w2.heap[b]? = some O → (∀ cur : Array Value, O ≠ Obj.cells cur 87 (0, 0)) → (w2.setCell ⟨tb, 0, none⟩ vt').heap[b]? = w2.heap[b]? := fun b O hb hne => heap_set_other (fun q => by rw [q, ht, Option.some.injEq] at hb; exact hne _ hb.symm)
  refine ⟨ht, h.mi, (so _ _ hm2 (fun cur e => by injection e with _ e _; cases e)).trans hm2, heap_set ht, map_keep (map_keep h.mp hmo2) (so mo _ (hmo2.trans hmb) (fun cur e => by cases e)), ?_⟩
  have e1 : q64 (T ++ List.replicate 64 0) = q64 T ++ (#[.int .u64 0, .int .u64 0, .int .u64 0, .int .u64 0, .int .u64 0, .int .u64 0, .int .u64 0, .int .u64 0, .int .u64 0, .int .u64 0, .int .u64 0, .int .u64 0, .int .u64 0, .int .u64 0, .int .u64 0, .int .u64 0, .int .u64 0, .int .u64 0, .int .u64 0, .int .u64 0, .int .u64 0, .int .u64 0, .int .u64 0, .int .u64 0, .int .u64 0, .int .u64 0, .int .u64 0, .int .u64 0, .int .u64 0, .int .u64 0, .int .u64 0, .int .u64 0, .int .u64 0, .int .u64 0, .int .u64 0, .int .u64 0, .int .u64 0, .int .u64 0, .int .u64 0, .int .u64 0, .int .u64 0, .int .u64 0, .int .u64 0, .int .u64 0, .int .u64 0, .int .u64 0, .int .u64 0, .int .u64 0, .int .u64 0, .int .u64 0, .int .u64 0, .int .u64 0, .int .u64 0, .int .u64 0, .int .u64 0, .int .u64 0, .int .u64 0, .int .u64 0, .int .u64 0, .int .u64 0, .int .u64 0, .int .u64 0, .int .u64 0, .int .u64 0] : Array Value).toList := by rw [q64_append]; rfl
  rw [e1]
  exact own_keep ho (fun b cur _ hc => so b _ hc (fun cur' e => by injection e with _ e _; cases e))
theorem UX.mark {mb mo tb : Nat} {C : List (Nat × Nat)} {n g cap : Nat} {T : List Nat} {D : DataW Unit} {w : World} (h : UX mb mo tb C n T D (.slice (some ⟨g, 0, none⟩) n cap) w) (j x : Nat) : UX mb mo tb C n (T.set j x) D (.slice (some ⟨g, 0, none⟩) n cap) (w.setCell ⟨g, j, none⟩ (.int .u64 (x : Int))) := by
  obtain ⟨_, cur, hg⟩ := own_blk h.row rfl
  obtain ⟨es, clock, hmb⟩ := map_blk h.mp
  have so : ∀ (b : Nat) (O : Obj), w.heap[b]? = some O → (∀ cur : Array Value, O ≠ Obj.cells cur 91 (0, 0)) → (w.setCell ⟨g, j, none⟩ (.int .u64 (x : Int))).heap[b]? = w.heap[b]? := fun b O hb hne => heap_set_other (fun q => by rw [q, hg, Option.some.injEq] at hb; exact hne _ hb.symm)
  refine ⟨h.mi, (so _ _ h.m (fun cur e => by injection e with _ e _; cases e)).trans h.m, (so _ _ h.t (fun cur e => by injection e with _ e _; cases e)).trans h.t, map_keep h.mp (so mo _ hmb (fun cur e => by cases e)), ?_⟩
  rw [q64_set]
  exact (h.row.stored j (.int .u64 (x : Int))).1
/-- What stands between two calls. -/
def FU (mb mo tb : Nat) (P : List (Nat × Nat)) (O : Nat → Prop) (w : World) : Prop := ∃ C T D vt, UM P C T ∧ UX mb mo tb C C.length T D vt w ∧ O = (fun b => b = mb ∨ b = mo ∨ b = tb ∨ vt.ownBlock = some b)

def UnQ (mb mo tb : Nat) (P : List (Nat × Nat)) (O : Nat → Prop) (x y : Nat) (w : World) (e : Ending) (w' : World) : Prop := e = .returned (.bool (decide ((x, y) ∉ P))) ∧ ∃ O', FU mb mo tb (if decide ((x, y) ∉ P) then P ++ [(x, y)] else P) O' w' ∧ FK O O' w w'
theorem arr_one : ∀ u ∈ (#[.int .u64 0, .int .u64 0, .int .u64 0, .int .u64 0, .int .u64 0, .int .u64 0, .int .u64 0, .int .u64 0, .int .u64 0, .int .u64 0, .int .u64 0, .int .u64 0, .int .u64 0, .int .u64 0, .int .u64 0, .int .u64 0, .int .u64 0, .int .u64 0, .int .u64 0, .int .u64 0, .int .u64 0, .int .u64 0, .int .u64 0, .int .u64 0, .int .u64 0, .int .u64 0, .int .u64 0, .int .u64 0, .int .u64 0, .int .u64 0, .int .u64 0, .int .u64 0, .int .u64 0, .int .u64 0, .int .u64 0, .int .u64 0, .int .u64 0, .int .u64 0, .int .u64 0, .int .u64 0, .int .u64 0, .int .u64 0, .int .u64 0, .int .u64 0, .int .u64 0, .int .u64 0, .int .u64 0, .int .u64 0, .int .u64 0, .int .u64 0, .int .u64 0, .int .u64 0, .int .u64 0, .int .u64 0, .int .u64 0, .int .u64 0, .int .u64 0, .int .u64 0, .int .u64 0, .int .u64 0, .int .u64 0, .int .u64 0, .int .u64 0, .int .u64 0] : Array Value).toList, u.oneCell' = true := List.all_eq_true.1 (by rfl)

set_option maxHeartbeats 8000000 in
set_option maxRecDepth 100000 in
theorem unmet1_any (mb mo tb : Nat) (P : List (Nat × Nat)) (O : Nat → Prop) (w : World) (h : FU mb mo tb P O w) (x y : Nat) (hx : x < 4096) (hy : y < 4096) :
    Calls Try.prog 58 #[peV x y, .pointer (some ⟨mb, 0, none⟩), .pointer (some ⟨tb, 0, none⟩)] w (UnQ mb mo tb P O x y w) := by
  obtain ⟨C, T, D, vt, hU, hX, rfl⟩ := h
  obtain ⟨i0, hi, hz0, hz1, hz2⟩ := info_parts Try.info_tile
  obtain ⟨X, hXe⟩ : ∃ X, x / 64 = X := ⟨_, rfl⟩
  obtain ⟨Y, hYe⟩ : ∃ Y, y / 64 = Y := ⟨_, rfl⟩
  obtain ⟨l, hle⟩ : ∃ l, x % 64 = l := ⟨_, rfl⟩
  obtain ⟨k, hke⟩ : ∃ k, y % 64 = k := ⟨_, rfl⟩
  have hX64 : X < 64 := by omega
  have hY64 : Y < 64 := by omega
  have hl64 : l < 64 := by omega
  have hk64 : k < 64 := by omega
  have d1 : (x : Int).tdiv 64 = (X : Int) := by rw [Int.tdiv_eq_ediv_of_nonneg (by omega)]; omega
  have d2 : (y : Int).tdiv 64 = (Y : Int) := by rw [Int.tdiv_eq_ediv_of_nonneg (by omega)]; omega
  have d3 : (x : Int).tmod 64 = (l : Int) := by rw [Int.tmod_eq_emod_of_nonneg (by omega)]; omega
  have d4 : (y : Int).tmod 64 = (k : Int) := by rw [Int.tmod_eq_emod_of_nonneg (by omega)]; omega
  have f1 : IntKind.u16.wrap (X : Int) = (X : Int) := by rw [IntKind.wrap_u16]; omega
  have f2 : IntKind.u16.wrap (Y : Int) = (Y : Int) := by rw [IntKind.wrap_u16]; omega
  have f3 : IntKind.u16.wrap (l : Int) = (l : Int) := by rw [IntKind.wrap_u16]; omega
  have f4 : IntKind.u16.wrap (k : Int) = (k : Int) := by rw [IntKind.wrap_u16]; omega
  have HLK : Hid (x % 64 = l ∧ y % 64 = k) := ⟨hle, hke⟩
  have HCR : Hid (x / 64 = X ∧ y / 64 = Y) := ⟨hXe, hYe⟩
  have hkey : keyOf Try.prog 77 (peV X Y) = some (klE (X, Y)) := klE_of (s := (X, Y)) (by show X ≤ _; omega) (by show Y ≤ _; omega)
  have HX0 : Hid (UX mb mo tb C C.length T D vt w) := hX
  have HU : Hid (UM P C T) := hU
  have hhas := hX.mi.has (X, Y) ⟨hX64, hY64⟩
  have hnum := hX.mi.num (X, Y) ⟨hX64, hY64⟩
  have hfew0 := hU.few
  obtain ⟨ta, tc, hvt⟩ := own_shape hX.row
  subst hvt
  obtain ⟨w1, hw1⟩ : ∃ w1, w1 = (w.alloc (.cells #[.int .u16 (x : Int), .int .u16 (y : Int)] 77)).alloc (.cells #[.int .u16 (X : Int), .int .u16 (Y : Int)] 77) := ⟨_, rfl⟩
  have hb1 : Below w.heap.size w w1 := by rw [hw1]; exact go_on (below_new _ _) (below_new _ _)
  have HW1 : Hid (w1 = (w.alloc (.cells #[.int .u16 (x : Int), .int .u16 (y : Int)] 77)).alloc (.cells #[.int .u16 (X : Int), .int .u16 (Y : Int)] 77)) := hw1
  have HB1 : Hid (Below w.heap.size w w1) := hb1
  have HX1 : Hid (UX mb mo tb C C.length T D (.slice ta C.length tc) w1) := hX.below hb1
  have HP1 : Hid (RowAt w1 w.heap.size #[.int .u16 (x : Int), .int .u16 (y : Int)]) := by show RowAt _ _ _; rw [hw1]; exact (RowAt.last _ _ _).alloc _
  have HC1 : Hid (RowAt w1 (w.heap.size + 1) #[.int .u16 (X : Int), .int .u16 (Y : Int)]) := by
    have := RowAt.last (w.alloc (.cells #[.int .u16 (x : Int), .int .u16 (y : Int)] 77)) #[.int .u16 (X : Int), .int .u16 (Y : Int)] 77
    rw [World.size_alloc] at this
    show RowAt _ _ _
    rw [hw1]; exact this
  have cm : ((w.alloc (.cells #[.int .u16 (x : Int), .int .u16 (y : Int)] 77)).alloc (.cells #[.int .u16 (X : Int), .int .u16 (Y : Int)] 77)).cell? ⟨mb, 0, none⟩ = some (.map (some mo)) := by rw [← hw1]; exact cell_of HX1.out.m
  have HMO : Hid (((w.alloc (.cells #[.int .u16 (x : Int), .int .u16 (y : Int)] 77)).alloc (.cells #[.int .u16 (X : Int), .int .u16 (Y : Int)] 77)).ownsMap Try.prog 77 (plainElem Try.prog 3) mo C.length D) := by have := HX1.out.mp; rw [hw1] at this; exact this
  clear hXe hYe hle hke hX hU hw1 hb1
  by_cases hmem : (X, Y) ∈ C
  · have hnum2 := hnum hmem (.lit (.int .i64 0))
    rw [decide_eq_true hmem] at hhas
    obtain ⟨j, hj⟩ : ∃ j, C.idxOf (X, Y) = j := ⟨_, rfl⟩
    rw [hj] at hnum2
    have HJ : Hid (C[j]? = some (x / 64, y / 64)) := by show _ = _; rw [← hj, HCR.out.1, HCR.out.2]; exact idxOf_get hmem
    clear hnum hj hmem
    go_enter Try.func58, Try.ntmps58
    go_wp2_with (first
      | (at_lookup; refine wpList_lookup_own_ok_int _ rfl _ _ 86 rfl 77 3 .i64 keyE Try.und_mapE Try.und_int (Try.zero_int _) mo C.length D rfl HMO.out _ _ rfl hkey ?_; intro c0 hat hwc; rw [hnum2] at hat; injection hat with hat; injection hat with _ hat; subst hat; rw [hhas]; clear hwc))
    rw [← HW1.out]
    have HPK : Hid (∀ o, w1.cell? ⟨w.heap.size, o, none⟩ = (#[.int .u16 (x : Int), .int .u16 (y : Int)] : Array Value)[o]?) := HP1.out.cell
    obtain ⟨gt, rfl⟩ : ∃ gt, ta = some ⟨gt, 0, none⟩ := by
      have hjl := (List.getElem?_eq_some_iff.1 HJ.out).1
      rcases HX1.out.row.2 with ⟨_, h0⟩ | ⟨g', cap', cur, hv, _⟩
      · omega
      · simp only [Value.slice.injEq] at hv
        exact ⟨g', hv.1⟩
    have HX : Hid (UX mb mo tb C C.length T D (.slice (some ⟨gt, 0, none⟩) C.length tc) w1) := HX1.out
    obtain ⟨W, hW⟩ : ∃ W : Nat, 2 ^ k = W := ⟨_, rfl⟩
    have hW64 : W < 18446744073709551616 := by rw [← hW]; exact Nat.pow_lt_pow_right (a := 2) (m := k) (n := 64) (by omega) hk64
    have hWI : (2 : Int) ^ k = (W : Int) := by rw [← hW]; simp
    have hshl : IntKind.u64.wrap ((2 : Int) ^ k) = (W : Int) := by rw [hWI, IntKind.wrap_u64]; omega
    have HW : Hid (2 ^ k = W) := hW
    clear hW hWI
    have S0 : (∀ o, w1.drew.cell? ⟨w.heap.size, o, none⟩ = (#[.int .u16 (x : Int), .int .u16 (y : Int)] : Array Value)[o]?) ∧ Below w1.heap.size w1 w1.drew := ⟨HPK.out, (Below.refl _ _).drew⟩
    clear cm hkey hhas hnum2 HMO d1 d2 f1 f2
    go_region_held3 (fun z => (∀ o, z.cell? ⟨w.heap.size, o, none⟩ = (#[.int .u16 (x : Int), .int .u16 (y : Int)] : Array Value)[o]?) ∧ Below w1.heap.size w1 z) (first | exact S0 | assumption) (fail)
    clear S0
    obtain ⟨wk, hwk⟩ : ∃ wk, w1.drew = wk := ⟨_, rfl⟩
    rw [hwk]
    have hbk : Below w1.heap.size w1 wk := by rw [← hwk]; exact (Below.refl _ _).drew
    have HBK : Hid (Below w.heap.size w wk) := go_on HB1.out hbk
    have HXk : Hid (UX mb mo tb C C.length T D (.slice (some ⟨gt, 0, none⟩) C.length tc) wk) := HX.out.below hbk
    clear hwk hbk HX
    have HX : Hid (UX mb mo tb C C.length T D (.slice (some ⟨gt, 0, none⟩) C.length tc) wk) := HXk.out
    have hjl : j < C.length := (List.getElem?_eq_some_iff.1 HJ.out).1
    have hjI : (j : Int) < C.length := by omega
    have hlI : (l : Int) < 64 := by omega
    have hfew := HU.out.few
    have hll : j * 64 + l < T.length := by rw [HU.out.len]; omega
    have ht0 : wk.cell? ⟨tb, 0, none⟩ = some (.slice (some ⟨gt, 0, none⟩) C.length tc) := cell_of HX.out.t
    have hcz : wk.cell? ⟨gt, j * 64 + l, none⟩ = some (.int .u64 (T.getD (j * 64 + l) 0 : Nat)) := (HX.out.row.cellAt (j * 64 + l) (by rw [← HU.out.len]; exact hll)).trans (q64_get hll)
    have hfr : wk.frozen? ⟨gt, j * 64 + l, none⟩ = false := HX.out.row.frozenAt (j * 64 + l)
    have hbt := HU.out.lt (j * 64 + l)
    have hor := or_u64' (T.getD (j * 64 + l) 0) W hbt hW64
    have han := and_u64' (T.getD (j * 64 + l) 0) W hbt hW64
    have hbit := HU.out.bit hx hy HJ.out
    rw [HLK.out.1, HLK.out.2, HW.out] at hbit
    obtain ⟨P', hP'⟩ : ∃ P', (if decide ((x, y) ∉ P) then P ++ [(x, y)] else P) = P' := ⟨_, rfl⟩
    have hUM' := HU.out.mark hx hy HJ.out P' (fun q => by rw [← hP']; exact mem_upd q)
    rw [HLK.out.1, HLK.out.2, HW.out] at hUM'
    have hX' := HX.out.mark (j * 64 + l) (T.getD (j * 64 + l) 0 ||| W)
    obtain ⟨b0, hb0⟩ : ∃ b0, T.getD (j * 64 + l) 0 = b0 := ⟨_, rfl⟩
    rw [hb0] at hcz hor han hbit hUM' hX'
    obtain ⟨Z, hZ⟩ : ∃ Z : Nat, b0 ||| W = Z := ⟨_, rfl⟩
    obtain ⟨N, hN⟩ : ∃ N : Nat, b0 &&& W = N := ⟨_, rfl⟩
    rw [hZ] at hor hUM' hX'
    rw [hN] at han hbit
    have HFIN : Hid (FU mb mo tb P' (fun b => b = mb ∨ b = mo ∨ b = tb ∨ (Value.slice (some ⟨gt, 0, none⟩) C.length tc).ownBlock = some b) (wk.setCell ⟨gt, j * 64 + l, none⟩ (.int .u64 (Z : Int)))) := ⟨C, _, D, _, hUM', hX', rfl⟩
    have HPE : Hid ((if decide ((x, y) ∉ P) then P ++ [(x, y)] else P) = P') := hP'
    have HDC : Hid (decide ((x, y) ∉ P) = decide (N = 0)) := by
      show _ = _
      by_cases q : N = 0
      · rw [decide_eq_true q, decide_eq_true (hbit.1 q)]
      · rw [decide_eq_false q, decide_eq_false (fun z => q (hbit.2 z))]
    clear hP' hUM' hX' hb0 hZ hN hbit hbt hll
    by_cases hN0 : N = 0
    · subst hN0
      go_wp2_with fail
      go_ret
      refine ⟨?_, _, ?_, ⟨?_, ?_, ?_, ?_, fun b hb hO => ?_, fun b hb => .inl hb⟩⟩
      · rw [HDC.out]; rfl
      · rw [HPE.out]; exact HFIN.out
      · exact HBK.out.os
      · exact HBK.out.tape
      · exact HBK.out.output
      · have := HBK.out.size; simp [World.setCell]; omega
      · rw [heap_set_other (fun e => hO (.inr (.inr (.inr (by rw [e]; rfl)))))]
        exact HBK.out.block b hb
    · have hNI : ¬ (N : Int) = 0 := by omega
      have hNd : decide ((N : Int) = 0) = false := decide_eq_false hNI
      have hNb : ((N : Int) == 0) = false := by simpa using hNI
      go_wp2_with fail
      go_ret
      refine ⟨?_, _, ?_, ⟨?_, ?_, ?_, ?_, fun b hb hO => ?_, fun b hb => .inl hb⟩⟩
      · rw [HDC.out]; rw [decide_eq_false hN0]; rfl
      · rw [HPE.out]; exact HFIN.out
      · exact HBK.out.os
      · exact HBK.out.tape
      · exact HBK.out.output
      · have := HBK.out.size; simp [World.setCell]; omega
      · rw [heap_set_other (fun e => hO (.inr (.inr (.inr (by rw [e]; rfl)))))]
        exact HBK.out.block b hb
  · rw [decide_eq_false hmem] at hhas
    have HX1' : Hid (UX mb mo tb C C.length T D (.slice ta C.length tc) ((w.alloc (.cells #[.int .u16 (x : Int), .int .u16 (y : Int)] 77)).alloc (.cells #[.int .u16 (X : Int), .int .u16 (Y : Int)] 77))) := by have := HX1.out; rw [HW1.out] at this; exact this
    have ct1 : ((w.alloc (.cells #[.int .u16 (x : Int), .int .u16 (y : Int)] 77)).alloc (.cells #[.int .u16 (X : Int), .int .u16 (Y : Int)] 77)).cell? ⟨tb, 0, none⟩ = some (.slice ta C.length tc) := cell_of HX1'.out.t
    have HMM : Hid ((X, Y) ∉ C) := hmem
    have HOK : Hid (okE (X, Y)) := ⟨hX64, hY64⟩
    clear hnum hmem
    go_enter Try.func58, Try.ntmps58
    go_wp2_with (first
      | (at_lookup; refine wpList_lookup_own_ok_int _ rfl _ _ 86 rfl 77 3 .i64 keyE Try.und_mapE Try.und_int (Try.zero_int _) mo C.length D rfl HMO.out _ _ rfl hkey ?_; intro c0 hat hwc; rw [hhas]; clear hwc hat)
      | (at_mapUpdate; refine wpList_mapUpdate_own _ rfl _ _ _ 86 rfl 77 3 keyE Try.und_mapE _ mo C.length D rfl HMO.out (by unfold maxLen; omega) _ _ _ rfl rfl hkey _ [] (plainElem_int Try.und_int (wfN (by omega))) ?_; intro w5 hmo hmg; have hX5 := HX1'.out.put HMM.out HOK.out hmo hmg; have HX5 : Hid (UX mb mo tb (C ++ [(X, Y)]) C.length T (D.put (klE (X, Y)) (.lit (.int .i64 (C.length : Nat)))) (.slice ta C.length tc) w5) := hX5; have ct5 : w5.cell? ⟨tb, 0, none⟩ = some (.slice ta C.length tc) := cell_of hX5.t; have HG5 : Hid (((w.alloc (.cells #[.int .u16 (x : Int), .int .u16 (y : Int)] 77)).alloc (.cells #[.int .u16 (X : Int), .int .u16 (Y : Int)] 77)).grownBy w5 (some mo)) := hmg; clear hmo hmg hX5)
      | (at_builtin; refine wpList_append_own_at _ rfl _ _ 87 rfl 0 91 i0 (.agg (#[.int .u64 0, .int .u64 0, .int .u64 0, .int .u64 0, .int .u64 0, .int .u64 0, .int .u64 0, .int .u64 0, .int .u64 0, .int .u64 0, .int .u64 0, .int .u64 0, .int .u64 0, .int .u64 0, .int .u64 0, .int .u64 0, .int .u64 0, .int .u64 0, .int .u64 0, .int .u64 0, .int .u64 0, .int .u64 0, .int .u64 0, .int .u64 0, .int .u64 0, .int .u64 0, .int .u64 0, .int .u64 0, .int .u64 0, .int .u64 0, .int .u64 0, .int .u64 0, .int .u64 0, .int .u64 0, .int .u64 0, .int .u64 0, .int .u64 0, .int .u64 0, .int .u64 0, .int .u64 0, .int .u64 0, .int .u64 0, .int .u64 0, .int .u64 0, .int .u64 0, .int .u64 0, .int .u64 0, .int .u64 0, .int .u64 0, .int .u64 0, .int .u64 0, .int .u64 0, .int .u64 0, .int .u64 0, .int .u64 0, .int .u64 0, .int .u64 0, .int .u64 0, .int .u64 0, .int .u64 0, .int .u64 0, .int .u64 0, .int .u64 0, .int .u64 0] : Array Value)) 64 512 Try.underlying87 hi hz0 hz1 hz2 rfl (by decide) _ _ _ rfl (HX5.out.row.alloc _) ⟨w5.heap.size, 0, none⟩ 1 1 (#[.int .u64 0, .int .u64 0, .int .u64 0, .int .u64 0, .int .u64 0, .int .u64 0, .int .u64 0, .int .u64 0, .int .u64 0, .int .u64 0, .int .u64 0, .int .u64 0, .int .u64 0, .int .u64 0, .int .u64 0, .int .u64 0, .int .u64 0, .int .u64 0, .int .u64 0, .int .u64 0, .int .u64 0, .int .u64 0, .int .u64 0, .int .u64 0, .int .u64 0, .int .u64 0, .int .u64 0, .int .u64 0, .int .u64 0, .int .u64 0, .int .u64 0, .int .u64 0, .int .u64 0, .int .u64 0, .int .u64 0, .int .u64 0, .int .u64 0, .int .u64 0, .int .u64 0, .int .u64 0, .int .u64 0, .int .u64 0, .int .u64 0, .int .u64 0, .int .u64 0, .int .u64 0, .int .u64 0, .int .u64 0, .int .u64 0, .int .u64 0, .int .u64 0, .int .u64 0, .int .u64 0, .int .u64 0, .int .u64 0, .int .u64 0, .int .u64 0, .int .u64 0, .int .u64 0, .int .u64 0, .int .u64 0, .int .u64 0, .int .u64 0, .int .u64 0] : Array Value).toList rfl rfl (cell_news w5 (#[.int .u64 0, .int .u64 0, .int .u64 0, .int .u64 0, .int .u64 0, .int .u64 0, .int .u64 0, .int .u64 0, .int .u64 0, .int .u64 0, .int .u64 0, .int .u64 0, .int .u64 0, .int .u64 0, .int .u64 0, .int .u64 0, .int .u64 0, .int .u64 0, .int .u64 0, .int .u64 0, .int .u64 0, .int .u64 0, .int .u64 0, .int .u64 0, .int .u64 0, .int .u64 0, .int .u64 0, .int .u64 0, .int .u64 0, .int .u64 0, .int .u64 0, .int .u64 0, .int .u64 0, .int .u64 0, .int .u64 0, .int .u64 0, .int .u64 0, .int .u64 0, .int .u64 0, .int .u64 0, .int .u64 0, .int .u64 0, .int .u64 0, .int .u64 0, .int .u64 0, .int .u64 0, .int .u64 0, .int .u64 0, .int .u64 0, .int .u64 0, .int .u64 0, .int .u64 0, .int .u64 0, .int .u64 0, .int .u64 0, .int .u64 0, .int .u64 0, .int .u64 0, .int .u64 0, .int .u64 0, .int .u64 0, .int .u64 0, .int .u64 0, .int .u64 0] : Array Value) 91) arr_one (by unfold maxLen; omega) (by omega) (Nat.zero_le _) ?_; intro v6 w6 ho6 hg6 _ hl6; have hM6 := HX5.out.tile hg6 ho6; have c6 : w6.cell? ⟨tb, 0, none⟩ = some (.slice ta C.length tc) := cell_of hM6.1; have f6 : w6.frozen? ⟨tb, 0, none⟩ = false := froz_of hM6.1; obtain ⟨a6, d6, rfl⟩ := own_shape ho6; have HM6 : Hid (UX mb mo tb (C ++ [(X, Y)]) (C.length + 1) (T ++ List.replicate 64 0) (D.put (klE (X, Y)) (.lit (.int .i64 (C.length : Nat)))) (.slice a6 (C.length + 1) d6) (w6.setCell ⟨tb, 0, none⟩ (.slice a6 (C.length + 1) d6))) := hM6.2; have HG6 : Hid ((w5.alloc (.cells (#[.int .u64 0, .int .u64 0, .int .u64 0, .int .u64 0, .int .u64 0, .int .u64 0, .int .u64 0, .int .u64 0, .int .u64 0, .int .u64 0, .int .u64 0, .int .u64 0, .int .u64 0, .int .u64 0, .int .u64 0, .int .u64 0, .int .u64 0, .int .u64 0, .int .u64 0, .int .u64 0, .int .u64 0, .int .u64 0, .int .u64 0, .int .u64 0, .int .u64 0, .int .u64 0, .int .u64 0, .int .u64 0, .int .u64 0, .int .u64 0, .int .u64 0, .int .u64 0, .int .u64 0, .int .u64 0, .int .u64 0, .int .u64 0, .int .u64 0, .int .u64 0, .int .u64 0, .int .u64 0, .int .u64 0, .int .u64 0, .int .u64 0, .int .u64 0, .int .u64 0, .int .u64 0, .int .u64 0, .int .u64 0, .int .u64 0, .int .u64 0, .int .u64 0, .int .u64 0, .int .u64 0, .int .u64 0, .int .u64 0, .int .u64 0, .int .u64 0, .int .u64 0, .int .u64 0, .int .u64 0, .int .u64 0, .int .u64 0, .int .u64 0, .int .u64 0] : Array Value) 91)).grownBy w6 (Value.slice ta C.length tc).ownBlock) := hg6; have HL6 : Hid ((Value.slice a6 (C.length + 1) d6).ownBlock = (Value.slice ta C.length tc).ownBlock ∨ (Value.slice a6 (C.length + 1) d6).ownBlock = some (w5.alloc (.cells (#[.int .u64 0, .int .u64 0, .int .u64 0, .int .u64 0, .int .u64 0, .int .u64 0, .int .u64 0, .int .u64 0, .int .u64 0, .int .u64 0, .int .u64 0, .int .u64 0, .int .u64 0, .int .u64 0, .int .u64 0, .int .u64 0, .int .u64 0, .int .u64 0, .int .u64 0, .int .u64 0, .int .u64 0, .int .u64 0, .int .u64 0, .int .u64 0, .int .u64 0, .int .u64 0, .int .u64 0, .int .u64 0, .int .u64 0, .int .u64 0, .int .u64 0, .int .u64 0, .int .u64 0, .int .u64 0, .int .u64 0, .int .u64 0, .int .u64 0, .int .u64 0, .int .u64 0, .int .u64 0, .int .u64 0, .int .u64 0, .int .u64 0, .int .u64 0, .int .u64 0, .int .u64 0, .int .u64 0, .int .u64 0, .int .u64 0, .int .u64 0, .int .u64 0, .int .u64 0, .int .u64 0, .int .u64 0, .int .u64 0, .int .u64 0, .int .u64 0, .int .u64 0, .int .u64 0, .int .u64 0, .int .u64 0, .int .u64 0, .int .u64 0, .int .u64 0] : Array Value) 91)).heap.size) := hl6; clear hM6 ho6 hg6 hl6))
    have hs5 := HG5.out.size
    rw [World.size_alloc, World.size_alloc] at hs5
    have hs6 := HG6.out.size
    rw [World.size_alloc] at hs6
    have hmol : mo < w.heap.size := HX0.out.mp.lt
    have htbl : tb < w.heap.size := (Array.getElem?_eq_some_iff.1 HX0.out.t).1
    have HRL : Hid (∀ b, (Value.slice ta C.length tc).ownBlock = some b → b < w.heap.size) := fun b hb => (HX0.out.row.lt b hb).2
    obtain ⟨w7, hw7⟩ : ∃ w7, w6.setCell ⟨tb, 0, none⟩ (.slice a6 (C.length + 1) d6) = w7 := ⟨_, rfl⟩
    have hs7 : w7.heap.size = w6.heap.size := by rw [← hw7]; simp [World.setCell]
    have HK7 : Hid (∀ b, b < w1.heap.size → b ≠ mo → b ≠ tb → (Value.slice ta C.length tc).ownBlock ≠ some b → w7.heap[b]? = w1.heap[b]?) := fun b hb h1 h2 h3 => by
      have hb' := hb
      rw [HW1.out, World.size_alloc, World.size_alloc] at hb'
      rw [← hw7, heap_set_other h2, HG6.out.block b (by simp; omega) (fun e => h3 e.symm), (below_new w5 _).block b (by omega), HG5.out.block b (by rw [World.size_alloc, World.size_alloc]; exact hb') (by simp; exact h1), HW1.out]
    have HO7 : Hid (w7.os = w.os ∧ w7.tape = w.tape ∧ w7.output = w.output) := by
      rw [← hw7]
      exact ⟨HG6.out.os.trans HG5.out.os, HG6.out.tape.trans HG5.out.tape, HG6.out.output.trans HG5.out.output⟩
    have HP7 : Hid (∀ o, w7.cell? ⟨w.heap.size, o, none⟩ = (#[.int .u16 (x : Int), .int .u16 (y : Int)] : Array Value)[o]?) := fun o => by
      have hb : w.heap.size < w1.heap.size := HP1.out.lt
      rw [World.cell?_of_block (HK7.out w.heap.size hb (by omega) (by omega) (fun e => by have := HRL.out _ e; omega))]
      exact HP1.out.cell o
    rw [hw7] at HM6 ⊢
    have HS7 : Hid (w.heap.size ≤ w7.heap.size ∧ w5.heap.size + 1 ≤ w7.heap.size ∧ w.heap.size + 2 ≤ w5.heap.size) := ⟨by omega, by omega, by omega⟩
    clear hw7 c6 f6 ct5 ct1 cm hkey hhas HMO d1 d2 f1 f2 HX1'
    obtain ⟨gt, rfl⟩ : ∃ gt, a6 = some ⟨gt, 0, none⟩ := by
      rcases HM6.out.row.2 with ⟨_, h0⟩ | ⟨g', cap', cur, hv, _⟩
      · omega
      · simp only [Value.slice.injEq] at hv
        exact ⟨g', hv.1⟩
    obtain ⟨C2, hC2⟩ : ∃ C2, C ++ [(X, Y)] = C2 := ⟨_, rfl⟩
    obtain ⟨T2, hT2⟩ : ∃ T2, T ++ List.replicate 64 0 = T2 := ⟨_, rfl⟩
    obtain ⟨D2, hD2⟩ : ∃ D2, D.put (klE (X, Y)) (.lit (.int .i64 (C.length : Nat))) = D2 := ⟨_, rfl⟩
    obtain ⟨j, hj⟩ : ∃ j, C.length = j := ⟨_, rfl⟩
    have hlen2 : C.length + 1 = C2.length := by rw [← hC2]; simp
    have HU2 : Hid (UM P C2 T2) := by rw [← hC2, ← hT2]; exact HU.out.tile HMM.out hX64 hY64
    have HJ : Hid (C2[j]? = some (x / 64, y / 64)) := by rw [← hC2, ← hj, HCR.out.1, HCR.out.2]; exact List.getElem?_concat_length
    have HO6 : Hid (∀ b, (Value.slice (some ⟨gt, 0, none⟩) C2.length d6).ownBlock = some b → (Value.slice ta C.length tc).ownBlock = some b ∨ w.heap.size ≤ b) := fun b hb => by
      have hb2 : (Value.slice (some ⟨gt, 0, none⟩) (C.length + 1) d6).ownBlock = some b := hb
      rcases HL6.out with q | q
      · exact .inl (q ▸ hb2)
      · rw [q] at hb2
        simp at hb2
        have := HS7.out
        exact .inr (by omega)
    rw [hC2, hT2, hD2, hlen2] at HM6
    rw [hlen2, hj]
    clear hlen2 hC2 hT2 hD2 HG5 HG6 HL6 hs5 hs6 hs7 HX5 hfew0 hj
    obtain ⟨W, hW⟩ : ∃ W : Nat, 2 ^ k = W := ⟨_, rfl⟩
    have hW64 : W < 18446744073709551616 := by rw [← hW]; exact Nat.pow_lt_pow_right (a := 2) (m := k) (n := 64) (by omega) hk64
    have hWI : (2 : Int) ^ k = (W : Int) := by rw [← hW]; simp
    have hshl : IntKind.u64.wrap ((2 : Int) ^ k) = (W : Int) := by rw [hWI, IntKind.wrap_u64]; omega
    have HW : Hid (2 ^ k = W) := hW
    clear hW hWI
    have S0 : (∀ o, w7.drew.cell? ⟨w.heap.size, o, none⟩ = (#[.int .u16 (x : Int), .int .u16 (y : Int)] : Array Value)[o]?) ∧ Below w7.heap.size w7 w7.drew := ⟨HP7.out, (Below.refl _ _).drew⟩
    go_region_held3 (fun z => (∀ o, z.cell? ⟨w.heap.size, o, none⟩ = (#[.int .u16 (x : Int), .int .u16 (y : Int)] : Array Value)[o]?) ∧ Below w7.heap.size w7 z) (first | exact S0 | assumption) (fail)
    clear S0
    obtain ⟨wk, hwk⟩ : ∃ wk, w7.drew = wk := ⟨_, rfl⟩
    rw [hwk]
    have hbk : Below w7.heap.size w7 wk := by rw [← hwk]; exact (Below.refl _ _).drew
    have HBK : Hid (Below w7.heap.size w7 wk) := hbk
    have HX : Hid (UX mb mo tb C2 C2.length T2 D2 (.slice (some ⟨gt, 0, none⟩) C2.length d6) wk) := HM6.out.below hbk
    clear hwk hbk HM6
    have hjl : j < C2.length := (List.getElem?_eq_some_iff.1 HJ.out).1
    have hjI : (j : Int) < C2.length := by omega
    have hlI : (l : Int) < 64 := by omega
    have hfew := HU2.out.few
    have hll : j * 64 + l < T2.length := by rw [HU2.out.len]; omega
    have ht0 : wk.cell? ⟨tb, 0, none⟩ = some (.slice (some ⟨gt, 0, none⟩) C2.length d6) := cell_of HX.out.t
    have hcz : wk.cell? ⟨gt, j * 64 + l, none⟩ = some (.int .u64 (T2.getD (j * 64 + l) 0 : Nat)) := (HX.out.row.cellAt (j * 64 + l) (by rw [← HU2.out.len]; exact hll)).trans (q64_get hll)
    have hfr : wk.frozen? ⟨gt, j * 64 + l, none⟩ = false := HX.out.row.frozenAt (j * 64 + l)
    have hbt := HU2.out.lt (j * 64 + l)
    have hor := or_u64' (T2.getD (j * 64 + l) 0) W hbt hW64
    have han := and_u64' (T2.getD (j * 64 + l) 0) W hbt hW64
    have hbit := HU2.out.bit hx hy HJ.out
    rw [HLK.out.1, HLK.out.2, HW.out] at hbit
    obtain ⟨P', hP'⟩ : ∃ P', (if decide ((x, y) ∉ P) then P ++ [(x, y)] else P) = P' := ⟨_, rfl⟩
    have hUM' := HU2.out.mark hx hy HJ.out P' (fun q => by rw [← hP']; exact mem_upd q)
    rw [HLK.out.1, HLK.out.2, HW.out] at hUM'
    have hX' := HX.out.mark (j * 64 + l) (T2.getD (j * 64 + l) 0 ||| W)
    obtain ⟨b0, hb0⟩ : ∃ b0, T2.getD (j * 64 + l) 0 = b0 := ⟨_, rfl⟩
    rw [hb0] at hcz hor han hbit hUM' hX'
    obtain ⟨Z, hZ⟩ : ∃ Z : Nat, b0 ||| W = Z := ⟨_, rfl⟩
    obtain ⟨N, hN⟩ : ∃ N : Nat, b0 &&& W = N := ⟨_, rfl⟩
    rw [hZ] at hor hUM' hX'
    rw [hN] at han hbit
    have HFIN : Hid (FU mb mo tb P' (fun b => b = mb ∨ b = mo ∨ b = tb ∨ (Value.slice (some ⟨gt, 0, none⟩) C2.length d6).ownBlock = some b) (wk.setCell ⟨gt, j * 64 + l, none⟩ (.int .u64 (Z : Int)))) := ⟨C2, _, D2, _, hUM', hX', rfl⟩
    have HPE : Hid ((if decide ((x, y) ∉ P) then P ++ [(x, y)] else P) = P') := hP'
    have HDC : Hid (decide ((x, y) ∉ P) = decide (N = 0)) := by
      show _ = _
      by_cases q : N = 0
      · rw [decide_eq_true q, decide_eq_true (hbit.1 q)]
      · rw [decide_eq_false q, decide_eq_false (fun z => q (hbit.2 z))]
    clear hP' hUM' hX' hb0 hZ hN hbit hbt hll
    by_cases hN0 : N = 0
    · subst hN0
      go_wp2_with fail
      go_ret
      refine ⟨?_, (fun b => b = mb ∨ b = mo ∨ b = tb ∨ (Value.slice (some ⟨gt, 0, none⟩) C2.length d6).ownBlock = some b), ?_, ⟨?_, ?_, ?_, ?_, fun b hb hO => ?_, fun b hb => ?_⟩⟩
      · rw [HDC.out]; rfl
      · rw [HPE.out]; exact HFIN.out
      · exact HBK.out.os.trans HO7.out.1
      · exact HBK.out.tape.trans HO7.out.2.1
      · exact HBK.out.output.trans HO7.out.2.2
      · have h1 := HBK.out.size; have h2 := HS7.out.1; simp [World.setCell]; omega
      · have hne : b ≠ gt := fun e => by
          rcases HO6.out gt rfl with q | q
          · exact hO (.inr (.inr (.inr (by rw [e]; exact q))))
          · omega
        rw [heap_set_other hne, HBK.out.block b (by have := HS7.out.1; omega), HK7.out b (Nat.lt_of_lt_of_le hb HB1.out.size) (fun e => hO (.inr (.inl e))) (fun e => hO (.inr (.inr (.inl e)))) (fun e => hO (.inr (.inr (.inr e))))]
        exact HB1.out.block b hb
      · rcases hb with q | q | q | q
        · exact .inl (.inl q)
        · exact .inl (.inr (.inl q))
        · exact .inl (.inr (.inr (.inl q)))
        · rcases HO6.out b q with z | z
          · exact .inl (.inr (.inr (.inr z)))
          · exact .inr z
    · have hNI : ¬ (N : Int) = 0 := by omega
      have hNd : decide ((N : Int) = 0) = false := decide_eq_false hNI
      have hNb : ((N : Int) == 0) = false := by simpa using hNI
      go_wp2_with fail
      go_ret
      refine ⟨?_, (fun b => b = mb ∨ b = mo ∨ b = tb ∨ (Value.slice (some ⟨gt, 0, none⟩) C2.length d6).ownBlock = some b), ?_, ⟨?_, ?_, ?_, ?_, fun b hb hO => ?_, fun b hb => ?_⟩⟩
      · rw [HDC.out]; rw [decide_eq_false hN0]; rfl
      · rw [HPE.out]; exact HFIN.out
      · exact HBK.out.os.trans HO7.out.1
      · exact HBK.out.tape.trans HO7.out.2.1
      · exact HBK.out.output.trans HO7.out.2.2
      · have h1 := HBK.out.size; have h2 := HS7.out.1; simp [World.setCell]; omega
      · have hne : b ≠ gt := fun e => by
          rcases HO6.out gt rfl with q | q
          · exact hO (.inr (.inr (.inr (by rw [e]; exact q))))
          · omega
        rw [heap_set_other hne, HBK.out.block b (by have := HS7.out.1; omega), HK7.out b (Nat.lt_of_lt_of_le hb HB1.out.size) (fun e => hO (.inr (.inl e))) (fun e => hO (.inr (.inr (.inl e)))) (fun e => hO (.inr (.inr (.inr e))))]
        exact HB1.out.block b hb
      · rcases hb with q | q | q | q
        · exact .inl (.inl q)
        · exact .inl (.inr (.inl q))
        · exact .inl (.inr (.inr (.inl q)))
        · rcases HO6.out b q with z | z
          · exact .inl (.inr (.inr (.inr z)))
          · exact .inr z
end Go.Proofs.Ytggheiblgghpkaa

namespace Go.Proofs.Ytggheiblgghpkaa
open Go Go.RowKit Go.Lib
set_option linter.unusedVariables false

/-- The forest in row g by a variable at ab; the function top by one at tb, join by one at jb; the first automaton at xb. -/
structure TX (ab g tb jb xb N : Nat) (xa : Array Value) (f : List Value) (w : World) : Prop where
  a : w.heap[ab]? = some (.cells #[.slice (some ⟨g, 0, none⟩) N N] 22 (0, 0))
  row : w.ownsRow 0 3 1 (.slice (some ⟨g, 0, none⟩) N N) N f
  t : w.heap[tb]? = some (.cells #[.func (.func 68) #[] #[.pointer (some ⟨ab, 0, none⟩)]] 62 (0, 0))
  j : w.heap[jb]? = some (.cells #[.func (.func 69) #[] #[.pointer (some ⟨tb, 0, none⟩), .pointer (some ⟨ab, 0, none⟩)]] 84 (0, 0))
  x : w.heap[xb]? = some (.cells xa 25 (0, 0))
def TO (ab g tb jb xb : Nat) (b : Nat) : Prop := b = ab ∨ b = g ∨ b = tb ∨ b = jb ∨ b = xb
theorem TX.glt {ab g tb jb xb N : Nat} {xa : Array Value} {f : List Value} {w : World} (h : TX ab g tb jb xb N xa f w) : g < w.heap.size := (h.row.lt g rfl).2
theorem TX.keep {ab g tb jb xb N : Nat} {xa : Array Value} {f : List Value} {w w' : World} (h : TX ab g tb jb xb N xa f w) (hk : ∀ b, TO ab g tb jb xb b → w'.heap[b]? = w.heap[b]?) : TX ab g tb jb xb N xa f w' :=
  ⟨(hk _ (.inl rfl)).trans h.a, own_keep h.row (fun b cur hb _ => by simp only [Value.ownBlock, Option.some.injEq] at hb; exact hk b (.inr (.inl hb.symm))), (hk _ (.inr (.inr (.inl rfl)))).trans h.t, (hk _ (.inr (.inr (.inr (.inl rfl))))).trans h.j, (hk _ (.inr (.inr (.inr (.inr rfl))))).trans h.x⟩
theorem TX.lt {ab g tb jb xb N : Nat} {xa : Array Value} {f : List Value} {w : World} (h : TX ab g tb jb xb N xa f w) {b : Nat} (hb : TO ab g tb jb xb b) : b < w.heap.size := by
  rcases hb with rfl | rfl | rfl | rfl | rfl
  · exact (Array.getElem?_eq_some_iff.1 h.a).1
  · exact h.glt
  · exact (Array.getElem?_eq_some_iff.1 h.t).1
  · exact (Array.getElem?_eq_some_iff.1 h.j).1
  · exact (Array.getElem?_eq_some_iff.1 h.x).1
theorem TX.below {ab g tb jb xb N : Nat} {xa : Array Value} {f : List Value} {w w' : World} (h : TX ab g tb jb xb N xa f w) (hb : Below w.heap.size w w') : TX ab g tb jb xb N xa f w' := h.keep (fun b hbb => hb.block b (h.lt hbb))
theorem TX.set {ab g tb jb xb N : Nat} {xa : Array Value} {f f' : List Value} {w w' : World} (h : TX ab g tb jb xb N xa f w) (ht : OT g w w') (hr : w'.ownsRow 0 3 1 (.slice (some ⟨g, 0, none⟩) N N) N f') : TX ab g tb jb xb N xa f' w' := by
  obtain ⟨_, cur, hg⟩ := own_blk h.row rfl
  have so : ∀ (b : Nat) (O : Obj), w.heap[b]? = some O → (∀ cur : Array Value, O ≠ Obj.cells cur 3 (0, 0)) → w'.heap[b]? = w.heap[b]? := fun b O hb hne => ht.block b (Array.getElem?_eq_some_iff.1 hb).1 (fun e => by
    rw [e, hg, Option.some.injEq] at hb
    exact hne _ hb.symm)
  exact ⟨(so _ _ h.a (fun cur e => by injection e with _ e _; cases e)).trans h.a, hr, (so _ _ h.t (fun cur e => by injection e with _ e _; cases e)).trans h.t, (so _ _ h.j (fun cur e => by injection e with _ e _; cases e)).trans h.j, (so _ _ h.x (fun cur e => by injection e with _ e _; cases e)).trans h.x⟩

set_option maxHeartbeats 2000000 in
set_option maxRecDepth 100000 in
theorem etop_any (ab g N : Nat) (hN : N ≤ 8192) (f : List Nat) (r e : Nat → Nat) (U : UF N f r e) (s : Nat) (hs : s < N) (w : World) (ha : w.heap[ab]? = some (.cells #[.slice (some ⟨g, 0, none⟩) N N] 22 (0, 0))) (h : w.ownsRow 0 3 1 (.slice (some ⟨g, 0, none⟩) N N) N (nC f)) :
    Calls Try.prog 68 #[.int .i64 s, .pointer (some ⟨ab, 0, none⟩)] w fun x w' => x = .returned (.int .i64 (r s)) ∧ ∃ f', UF N f' r e ∧ w'.ownsRow 0 3 1 (.slice (some ⟨g, 0, none⟩) N N) N (nC f') ∧ OT g w w' := by
  have HU : Hid (UF N f r e) := U
  have HO : Hid (w.ownsRow 0 3 1 (.slice (some ⟨g, 0, none⟩) N N) N (nC f)) := h
  have HNE : Hid (ab ≠ g) := fun e => by
    obtain ⟨_, cur, hg⟩ := own_blk h rfl
    rw [← e, ha] at hg
    injection hg with hg; injection hg with _ hg _; cases hg
  have HAB : Hid (∀ y, OT g w y → y.cell? ⟨ab, 0, none⟩ = some (.slice (some ⟨g, 0, none⟩) N N)) := fun y hy => (hy.cell (Array.getElem?_eq_some_iff.1 ha).1 HNE.out).trans (cell_of ha)
  clear U h ha
  go_enter Try.func68, Try.ntmps68
  go_wp2_with fail
  go_loopw [0] (fun vs wr => ∃ (t : Nat) (f' : List Nat), vs = .int .i64 t ∧ t < N ∧ r t = r s ∧ UF N f' r e ∧ wr.ownsRow 0 3 1 (.slice (some ⟨g, 0, none⟩) N N) N (nC f') ∧ OT g w wr) (fun vs _ => e (intOf vs).toNat)
  case atStart => exact ⟨s, f, rfl, hs, rfl, HU.out, HO.out, OT.refl _ _⟩
  case round =>
    clear HU HO
    obtain ⟨t, f', rfl, ht, hr, U, hO, hT⟩ := hrel
    have hfl := U.len
    have h1 := U.lt t ht
    have h2 := U.lt _ h1
    have hca := HAB.out wr hT
    have hc1 : wr.cell? ⟨g, t, none⟩ = some (.int .i64 (f'.getD t 0 : Nat)) := (hO.cellAt t (by omega)).trans (nC_get (by omega))
    have hc2 : wr.cell? ⟨g, f'.getD t 0, none⟩ = some (.int .i64 (f'.getD (f'.getD t 0) 0 : Nat)) := (hO.cellAt _ (by omega)).trans (nC_get (by omega))
    have htI : (t : Int) < N := by omega
    by_cases hf : f'.getD t 0 = t
    · have HR : Hid (r s = t) := by show _ = _; rw [← hr]; exact (U.fix t ht).1 hf
      rw [hf] at hc1
      have HO : Hid (wr.ownsRow 0 3 1 (.slice (some ⟨g, 0, none⟩) N N) N (nC f')) := hO
      have HU : Hid (UF N f' r e) := U
      have HT : Hid (OT g w wr) := hT
      clear hO U hT hf hr hfl h1 h2 hc2
      go_wp2_with fail
      go_ret
      exact ⟨by rw [HR.out]; rfl, f', HU.out, HO.out, HT.out⟩
    · have U' := U.halve ht hf
      have hd := U.dec t ht hf
      have hd2 : e (f'.getD (f'.getD t 0) 0) ≤ e (f'.getD t 0) := by
        by_cases q : f'.getD (f'.getD t 0) 0 = f'.getD t 0
        · rw [q]; exact Nat.le_refl _
        · exact Nat.le_of_lt (U.dec _ h1 q)
      have hr2 : r (f'.getD (f'.getD t 0) 0) = r s := by rw [U.inv _ h1, U.inv _ ht]; exact hr
      have hst := (hO.stored t (.int .i64 ((f'.getD (f'.getD t 0) 0 : Nat) : Int))).1
      rw [← nC_set] at hst
      obtain ⟨x, hx⟩ : ∃ x, f'.getD t 0 = x := ⟨_, rfl⟩
      rw [hx] at hc1 hc2 h1 h2 hf U' hd hd2 hr2 hst
      obtain ⟨y, hy⟩ : ∃ y, f'.getD x 0 = y := ⟨_, rfl⟩
      rw [hy] at hc2 h2 U' hd2 hr2 hst
      have hxI : (x : Int) < N := by omega
      have hyI : (y : Int) < N := by omega
      have hne : ¬ (x : Int) = t := by omega
      have hdd : decide ((x : Int) = t) = false := decide_eq_false hne
      have hbn : ((x : Int) != (t : Int)) = true := by simpa using hne
      have hfz : wr.frozen? ⟨g, t, none⟩ = false := hO.frozenAt t
      have hOT := hT.set t (.int .i64 (y : Int))
      have hcN : (wr.setCell ⟨g, t, none⟩ (.int .i64 (y : Int))).cell? ⟨g, t, none⟩ = some (.int .i64 (y : Int)) := (hst.cellAt t (by omega)).trans (by rw [nC_get (by rw [U'.len]; exact ht), getD_set (by omega), if_pos rfl])
      have HO : Hid ((wr.setCell ⟨g, t, none⟩ (.int .i64 (y : Int))).ownsRow 0 3 1 (.slice (some ⟨g, 0, none⟩) N N) N (nC (f'.set t y))) := hst
      have HU : Hid (UF N (f'.set t y) r e) := U'
      have HT : Hid (OT g w (wr.setCell ⟨g, t, none⟩ (.int .i64 (y : Int)))) := hOT
      have HR : Hid (r y = r s) := hr2
      have HD : Hid (e y < e t) := by show e y < e t; omega
      have S0 : wr.drew.cell? ⟨ab, 0, none⟩ = some (.slice (some ⟨g, 0, none⟩) N N) ∧ wr.drew.cell? ⟨g, t, none⟩ = some (.int .i64 (x : Int)) ∧ wr.drew.cell? ⟨g, x, none⟩ = some (.int .i64 (y : Int)) ∧ wr.drew.frozen? ⟨g, t, none⟩ = false := ⟨hca, hc1, hc2, hfz⟩
      have HC2 : Hid ((wr.setCell ⟨g, t, none⟩ (.int .i64 (y : Int))).cell? ⟨ab, 0, none⟩ = some (.slice (some ⟨g, 0, none⟩) N N) ∧ (wr.setCell ⟨g, t, none⟩ (.int .i64 (y : Int))).cell? ⟨g, t, none⟩ = some (.int .i64 (y : Int))) := ⟨HAB.out _ hOT, hcN⟩
      obtain ⟨wv, hwv⟩ : ∃ wv, wr.drew = wv := ⟨_, rfl⟩
      have HWV : Hid (wr.drew = wv) := hwv
      have cv1 : wr.drew.cell? ⟨ab, 0, none⟩ = some (.slice (some ⟨g, 0, none⟩) N N) := hca
      have cv2 : wr.drew.cell? ⟨g, t, none⟩ = some (.int .i64 (x : Int)) := hc1
      have cv3 : wr.drew.cell? ⟨g, x, none⟩ = some (.int .i64 (y : Int)) := hc2
      have cv4 : wr.drew.frozen? ⟨g, t, none⟩ = false := hfz
      have hx1 : (wr.drew.setCell ⟨g, t, none⟩ (.int .i64 (y : Int))).cell? ⟨ab, 0, none⟩ = some (.slice (some ⟨g, 0, none⟩) N N) := HC2.out.1
      have hx2 : (wr.drew.setCell ⟨g, t, none⟩ (.int .i64 (y : Int))).cell? ⟨g, t, none⟩ = some (.int .i64 (y : Int)) := HC2.out.2
      have hx3 : (wr.setCell ⟨g, t, none⟩ (.int .i64 (y : Int))).drew.cell? ⟨ab, 0, none⟩ = some (.slice (some ⟨g, 0, none⟩) N N) := HC2.out.1
      have hx4 : (wr.setCell ⟨g, t, none⟩ (.int .i64 (y : Int))).drew.cell? ⟨g, t, none⟩ = some (.int .i64 (y : Int)) := HC2.out.2
      clear hO U hT hf hr hfl hst U' hd hd2 hr2 hx hy hne hwv hOT
      go_wp2_with fail
      go_region
      go_wp2_with fail
      go_roundw
      case rel => exact ⟨y, f'.set t y, rfl, h2, HR.out, HU.out, World.ownsRow.drew HO.out, ⟨HT.out.os, HT.out.tape, HT.out.output, HT.out.size, HT.out.block⟩⟩
      case measure => have := HD.out; simp [intOf]; exact this
end Go.Proofs.Ytggheiblgghpkaa

namespace Go.Proofs.Ytggheiblgghpkaa
open Go Go.RowKit Go.Lib
set_option linter.unusedVariables false

/-- What join answers and leaves. -/
def EJQ (ab g tb jb xb N : Nat) (xa : Array Value) (r : Nat → Nat) (s t : Nat) (w : World) (x : Ending) (w' : World) : Prop := x = .returned (.bool (decide (r s ≠ r t))) ∧ ∃ f' e', UF N f' (if r s = r t then r else jn r s t) e' ∧ TX ab g tb jb xb N xa (nC f') w' ∧ OT g w w'
def EJS (ab g tb jb xb N : Nat) (xa : Array Value) (r e : Nat → Nat) (w y : World) : Prop := ∃ f', UF N f' r e ∧ TX ab g tb jb xb N xa (nC f') y ∧ OT g w y

set_option maxHeartbeats 4000000 in
set_option maxRecDepth 100000 in
theorem ejoin_any (ab g tb jb xb N : Nat) (hN : N ≤ 8192) (xa : Array Value) (f : List Nat) (r e : Nat → Nat) (U : UF N f r e) (s t : Nat) (hs : s < N) (ht : t < N) (w : World) (h : TX ab g tb jb xb N xa (nC f) w) :
    Calls Try.prog 69 #[.int .i64 s, .int .i64 t, .pointer (some ⟨tb, 0, none⟩), .pointer (some ⟨ab, 0, none⟩)] w (EJQ ab g tb jb xb N xa r s t w) := by
  have HE0 : Hid (EJS ab g tb jb xb N xa r e w w) := ⟨f, U, h, OT.refl _ _⟩
  have HTP : Hid (∀ y, EJS ab g tb jb xb N xa r e w y → ∀ p, p < N → Calls Try.prog 68 #[.int .i64 p, .pointer (some ⟨ab, 0, none⟩)] y fun x w' => x = .returned (.int .i64 (r p)) ∧ EJS ab g tb jb xb N xa r e w w') := fun y hy p hp => by
    obtain ⟨f', u', t', o'⟩ := hy
    refine (etop_any ab g N hN f' r e u' p hp y t'.a t'.row).mono ?_
    rintro x w' ⟨rfl, f2, u2, r2, o2⟩
    exact ⟨rfl, f2, u2, t'.set o2 r2, o'.trans o2⟩
  have HFC : Hid (∀ y, EJS ab g tb jb xb N xa r e w y → y.cell? ⟨tb, 0, none⟩ = some (.func (.func 68) #[] #[.pointer (some ⟨ab, 0, none⟩)])) := fun y hy => by obtain ⟨f', u', t', o'⟩ := hy; exact cell_of t'.t
  have hr1 := (U.root hs).1
  have hr2 := (U.root ht).1
  have HU : Hid (UF N f r e) := U
  clear U h
  have S0 : w.drew.cell? ⟨tb, 0, none⟩ = some (.func (.func 68) #[] #[.pointer (some ⟨ab, 0, none⟩)]) ∧ EJS ab g tb jb xb N xa r e w w.drew := ⟨HFC.out w HE0.out, by obtain ⟨f', u', t', o'⟩ := HE0.out; exact ⟨f', u', t'.keep (fun _ _ => rfl), ⟨rfl, rfl, rfl, Nat.le_refl _, fun _ _ _ => rfl⟩⟩⟩
  go_enter Try.func69, Try.ntmps69
  go_wp2_with fail
  go_region_held3 (fun y => y.cell? ⟨tb, 0, none⟩ = some (.func (.func 68) #[] #[.pointer (some ⟨ab, 0, none⟩)]) ∧ EJS ab g tb jb xb N xa r e w y) (first | exact S0 | assumption | exact ⟨HFC.out _ (by assumption), by assumption⟩) (first
    | (go_at_call_of 68 (Value.int IntKind.i64 (s : Int)); refine (HTP.out _ (And.right (by assumption)) s hs).mono ?_; rintro x y1 ⟨rfl, hy1⟩)
    | (go_at_call_of 68 (Value.int IntKind.i64 (t : Int)); refine (HTP.out _ (And.right (by assumption)) t ht).mono ?_; rintro x y2 ⟨rfl, hy2⟩))
  all_goals (
    rename_i S9
    obtain ⟨f2, u2, t2, o2⟩ := S9.2
    have HU2 : Hid (UF N f2 r e) := u2
    have HT2 : Hid (TX ab g tb jb xb N xa (nC f2) _) := t2
    have HO2 : Hid (OT g w _) := o2
    obtain ⟨p, hp⟩ : ∃ p, r s = p := ⟨_, rfl⟩
    obtain ⟨q, hq⟩ : ∃ q, r t = q := ⟨_, rfl⟩
    have HPE : Hid (r s = p ∧ r t = q) := ⟨hp, hq⟩
    rw [hp] at hr1
    rw [hq] at hr2
    rw [show (r s : Nat) = p from hp, show (r t : Nat) = q from hq]
    have hpI : (p : Int) < N := by omega
    have ca := cell_of (j := 0) t2.a
    have hfz := t2.row.frozenAt p
    have hfl := u2.len
    obtain ⟨z, hz⟩ : ∃ z, f2.getD p 0 = z := ⟨_, rfl⟩
    have hcl := (t2.row.cellAt p (by omega)).trans (nC_get (by omega))
    rw [hz] at hcl
    have hst := (t2.row.stored p (.int .i64 (q : Int))).1
    rw [← nC_set] at hst
    have hO3 := o2.set p (.int .i64 (q : Int))
    have hT3 := t2.set ((OT.refl g _).set p (.int .i64 (q : Int))) hst
    have HT3 : Hid _ := hT3
    have HO3 : Hid _ := hO3
    by_cases hpq : p = q
    · have HU3 : Hid (UF N (f2.set p q) r e) := by
        show UF _ _ _ _
        rw [← hpq, ← hp, HU2.out.stay hs]
        exact HU2.out
      have HPQ : Hid (decide (r s ≠ r t) = false) := by show _ = _; rw [hp, hq]; simpa using hpq
      have HRR : Hid (r s = r t) := by show _ = _; rw [hp, hq]; exact hpq
      clear hst u2 t2 o2 hz hp hq hfl hT3 hO3 S9 S0
      subst hpq
      go_wp2_with fail
      go_ret
      exact ⟨by rw [HPQ.out]; rfl, _, e, by rw [if_pos HRR.out]; exact HU3.out, HT3.out, HO3.out⟩
    · have HU3 : Hid (∃ e', UF N (f2.set p q) (jn r s t) e') := by
        have := HU2.out.link hs ht (by rw [hp, hq]; exact hpq)
        rw [hp, hq] at this
        exact this
      have HPQ : Hid (decide (r s ≠ r t) = true) := by show _ = _; rw [hp, hq]; simpa using hpq
      have HRR : Hid (¬ r s = r t) := by show ¬ _; rw [hp, hq]; exact hpq
      have hI : ¬ (p : Int) = q := by omega
      have hd : decide ((p : Int) = q) = false := decide_eq_false hI
      have hbn : ((p : Int) != (q : Int)) = true := by simpa using hI
      clear hst u2 t2 o2 hpq hz hp hq hfl hT3 hO3 S9 S0
      go_wp2_with fail
      go_ret
      obtain ⟨e', he⟩ := HU3.out
      exact ⟨by rw [HPQ.out]; rfl, _, e', by rw [if_neg HRR.out]; exact he, HT3.out, HO3.out⟩)

/-- The roots behind the pairs P; the second automaton's states behind the first one's n. -/
def rP (n : Nat) (P : List (Nat × Nat)) : Nat → Nat := P.foldl (fun r p => jn r p.1 (n + p.2)) (fun x => x)
theorem rP_snoc (n : Nat) (P : List (Nat × Nat)) (p : Nat × Nat) : rP n (P ++ [p]) = jn (rP n P) p.1 (n + p.2) := by unfold rP; rw [List.foldl_append]; rfl
def dP (n : Nat) (P : List (Nat × Nat)) (p : Nat × Nat) : Bool := decide (rP n P p.1 ≠ rP n P (n + p.2))
/-- What stands between two calls. -/
def FP (ab g tb jb xb N n : Nat) (xa : Array Value) (P : List (Nat × Nat)) (O : Nat → Prop) (w : World) : Prop := ∃ f e, UF N f (rP n P) e ∧ TX ab g tb jb xb N xa (nC f) w ∧ O = TO ab g tb jb xb
def PaQ (ab g tb jb xb N n : Nat) (xa : Array Value) (P : List (Nat × Nat)) (O : Nat → Prop) (x y : Nat) (w : World) (e : Ending) (w' : World) : Prop := e = .returned (.bool (dP n P (x, y))) ∧ ∃ O', FP ab g tb jb xb N n xa (if dP n P (x, y) then P ++ [(x, y)] else P) O' w' ∧ FK O O' w w'

set_option maxHeartbeats 4000000 in
set_option maxRecDepth 100000 in
theorem parted1_any (ab g tb jb xb n m : Nat) (hn : n ≤ 4096) (hm : m ≤ 4096) (k an cn aa ca : Value) (xl : Nat) (sa : Option Addr) (sc : Nat) (P : List (Nat × Nat)) (O : Nat → Prop) (w : World) (h : FP ab g tb jb xb (n + m) n #[k, an, .slice sa n sc] P O w) (x y : Nat) (hx : x < n) (hy : y < m) :
    Calls Try.prog 57 #[peV x y, .pointer (some ⟨jb, 0, none⟩), .pointer (some ⟨xb, 0, none⟩)] w (PaQ ab g tb jb xb (n + m) n #[k, an, .slice sa n sc] P O x y w) := by
  obtain ⟨f, e, U, hX, rfl⟩ := h
  have hX1 := hX.below (below_new w (.cells #[.int .u16 (x : Int), .int .u16 (y : Int)] 77))
  obtain ⟨w1, hw1⟩ : ∃ w1, w1 = w.alloc (.cells #[.int .u16 (x : Int), .int .u16 (y : Int)] 77) := ⟨_, rfl⟩
  have HW1 : Hid (w1 = w.alloc (.cells #[.int .u16 (x : Int), .int .u16 (y : Int)] 77)) := hw1
  have cj : (w.alloc (.cells #[.int .u16 (x : Int), .int .u16 (y : Int)] 77)).cell? ⟨jb, 0, none⟩ = some (.func (.func 69) #[] #[.pointer (some ⟨tb, 0, none⟩), .pointer (some ⟨ab, 0, none⟩)]) := cell_of hX1.j
  have cx : ∀ o, (w.alloc (.cells #[.int .u16 (x : Int), .int .u16 (y : Int)] 77)).cell? ⟨xb, o, none⟩ = (#[k, an, .slice sa n sc] : Array Value)[o]? := fun o => cell_of hX1.x
  obtain ⟨t, hte⟩ : ∃ t, n + y = t := ⟨_, rfl⟩
  have hw : IntKind.i64.wrap ((n : Int) + (y : Int)) = (t : Int) := by rw [IntKind.wrap_i64]; omega
  have hx16 : IntKind.i64.wrap (x : Int) = (x : Int) := by rw [IntKind.wrap_i64]; omega
  have hy16 : IntKind.i64.wrap (y : Int) = (y : Int) := by rw [IntKind.wrap_i64]; omega
  have HJ : Hid (Calls Try.prog 69 #[.int .i64 x, .int .i64 t, .pointer (some ⟨tb, 0, none⟩), .pointer (some ⟨ab, 0, none⟩)] (w.alloc (.cells #[.int .u16 (x : Int), .int .u16 (y : Int)] 77)) (EJQ ab g tb jb xb (n + m) #[k, an, .slice sa n sc] (rP n P) x t (w.alloc (.cells #[.int .u16 (x : Int), .int .u16 (y : Int)] 77)))) := ejoin_any ab g tb jb xb (n + m) (by omega) _ f (rP n P) e U x t (by omega) (by omega) _ hX1
  have HGL : Hid (g < w.heap.size) := hX.glt
  have HTE : Hid (n + y = t) := hte
  clear U hX hX1 hte hw1
  go_enter Try.func57, Try.ntmps57
  go_wp2_with (first
    | (go_at_call 69; refine HJ.out.mono ?_; rintro x9 w9 ⟨rfl, f9, e9, u9, t9, o9⟩; have HU9 : Hid _ := u9; have HT9 : Hid _ := t9; have HO9 : Hid _ := o9; clear u9 t9 o9))
  go_ret
  refine ⟨?_, TO ab g tb jb xb, ⟨f9, e9, ?_, HT9.out, rfl⟩, ⟨HO9.out.os, HO9.out.tape, HO9.out.output, ?_, fun b hb hO => ?_, fun b hb => .inl hb⟩⟩
  · unfold dP
    show _ = Ending.returned (.bool (decide (rP n P x ≠ rP n P (n + y))))
    rw [HTE.out, show decide (rP n P x ≠ rP n P t) = !decide (rP n P x = rP n P t) by simp]; rfl
  · have := HU9.out
    have e1 : (if dP n P (x, y) then P ++ [(x, y)] else P) = (if rP n P x = rP n P t then P else P ++ [(x, y)]) := by
      unfold dP
      rw [← HTE.out]
      by_cases q : rP n P x = rP n P (n + y) <;> simp [q]
    rw [e1]
    by_cases q : rP n P x = rP n P t
    · rw [if_pos q] at this ⊢; exact this
    · rw [if_neg q] at this ⊢
      rw [rP_snoc]
      show UF _ _ (jn (rP n P) x (n + y)) _
      rw [HTE.out]; exact this
  · have := HO9.out.size; simp at this; omega
  · rw [HO9.out.block b (by simp; omega) (fun e => hO (.inr (.inl e)))]
    exact (below_new _ _).block b hb

set_option maxHeartbeats 4000000 in
set_option maxRecDepth 100000 in
theorem trees_any (n : Nat) (hn : n ≤ 8192) (w : World) :
    Calls Try.prog 56 #[.int .i64 n] w fun e w' => ∃ ab g tb, e = .returned (.func (.func 69) #[] #[.pointer (some ⟨tb, 0, none⟩), .pointer (some ⟨ab, 0, none⟩)]) ∧ w'.heap[ab]? = some (.cells #[.slice (some ⟨g, 0, none⟩) n n] 22 (0, 0)) ∧ w'.ownsRow w.heap.size 3 1 (.slice (some ⟨g, 0, none⟩) n n) n (nC (List.range n)) ∧ w'.heap[tb]? = some (.cells #[(.func (.func 68) #[] #[.pointer (some ⟨ab, 0, none⟩)])] 62 (0, 0)) ∧ w.heap.size ≤ ab ∧ w.heap.size ≤ tb ∧ Below w.heap.size w w' := by
  obtain ⟨i0, hi, hz0, hz1, hz2⟩ := info_parts Try.info_int
  have hmk := fun w0 => run_make (P := Try.prog) w0 22 3 i0 (.int .i64 0) Try.underlying22 hi hz0 .i64 .i64 (n : Int) (n : Int) (by omega) (by omega) (by rw [hz2]; omega) (by omega)
  rw [hz1] at hmk
  simp only [Nat.mul_one] at hmk
  obtain ⟨w1, hw1⟩ : ∃ w1, w1 = (w.alloc (.cells (madeCells #[.int .i64 0] n) 3)).alloc (.cells #[.slice (some ⟨w.heap.size, 0, none⟩) n n] 22) := ⟨_, rfl⟩
  have HW1 : Hid (w1 = (w.alloc (.cells (madeCells #[.int .i64 0] n) 3)).alloc (.cells #[.slice (some ⟨w.heap.size, 0, none⟩) n n] 22)) := hw1
  have HO0 : Hid (w1.ownsRow w.heap.size 3 1 (.slice (some ⟨w.heap.size, 0, none⟩) n n) n (nC (filN id n 0)) ∧ w1.heap[w.heap.size + 1]? = some (.cells #[.slice (some ⟨w.heap.size, 0, none⟩) n n] 22 (0, 0)) ∧ Below w.heap.size w w1) := by
    show _ ∧ _
    rw [hw1]
    have := heap_alloc_last (w.alloc (.cells (madeCells #[.int .i64 0] n) 3)) (.cells #[.slice (some ⟨w.heap.size, 0, none⟩) n n] 22)
    rw [World.size_alloc] at this
    exact ⟨(made_row w id (by omega) (Nat.le_refl _)).alloc _, this, go_on (below_new _ _) (below_new _ _)⟩
  have ca : ((w.alloc (.cells (madeCells #[.int .i64 0] n) 3)).alloc (.cells #[.slice (some ⟨w.heap.size, 0, none⟩) n n] 22)).cell? ⟨w.heap.size + 1, 0, none⟩ = some (.slice (some ⟨w.heap.size, 0, none⟩) n n) := by rw [← hw1]; exact cell_of HO0.out.2.1
  clear hw1
  go_enter Try.func56, Try.ntmps56
  go_wp2_with fail
  rw [← HW1.out]
  clear hmk ca
  go_loopw [10, 4] (fun vi _ wr => ∃ i : Nat, vi = .int .i64 i ∧ i ≤ n ∧ wr.ownsRow w.heap.size 3 1 (.slice (some ⟨w.heap.size, 0, none⟩) n n) n (nC (filN id n i)) ∧ wr.heap[w.heap.size + 1]? = some (.cells #[.slice (some ⟨w.heap.size, 0, none⟩) n n] 22 (0, 0)) ∧ Below w.heap.size w wr) (fun vi _ _ => n - (intOf vi).toNat)
  case atStart => exact ⟨0, rfl, Nat.zero_le _, HO0.out⟩
  case round =>
    clear HO0
    obtain ⟨i, rfl, hin, hO, hA, hB⟩ := hrel
    by_cases hlt : i < n
    · have hiI : (i : Int) < n := by omega
      have ca : wr.cell? ⟨w.heap.size + 1, 0, none⟩ = some (.slice (some ⟨w.heap.size, 0, none⟩) n n) := cell_of hA
      have hfz : wr.frozen? ⟨w.heap.size, i, none⟩ = false := hO.frozenAt i
      have hcl : wr.cell? ⟨w.heap.size, i, none⟩ = some (.int .i64 0) := (hO.cellAt i (by omega)).trans (filN_cell id hlt)
      have hst := (hO.stored i (.int .i64 ((id i : Nat) : Int))).1
      rw [← nC_set, filN_set id hlt] at hst
      have HN : Hid ((wr.setCell ⟨w.heap.size, i, none⟩ (.int .i64 (i : Int))).ownsRow w.heap.size 3 1 (.slice (some ⟨w.heap.size, 0, none⟩) n n) n (nC (filN id n (i + 1)))) := hst
      have HN2 : Hid (Below w.heap.size w (wr.setCell ⟨w.heap.size, i, none⟩ (.int .i64 (i : Int)))) := hB.setCell (p := ⟨w.heap.size, i, none⟩) (Nat.le_refl _) _
      have HN3 : Hid ((wr.setCell ⟨w.heap.size, i, none⟩ (.int .i64 (i : Int))).heap[w.heap.size + 1]? = some (.cells #[.slice (some ⟨w.heap.size, 0, none⟩) n n] 22 (0, 0))) := by show (wr.setCell ⟨w.heap.size, i, none⟩ (.int .i64 (i : Int))).heap[w.heap.size + 1]? = _; rw [heap_set_other (by omega)]; exact hA
      clear hst hO hB hA
      go_wp2_with fail
      go_roundw
      case rel => exact ⟨i + 1, by go_num, by omega, HN.out, HN3.out, HN2.out⟩
      case measure => simp [intOf]; omega
    · have hiI : ¬ (i : Int) < n := by omega
      have e : i = n := by omega
      rw [e, filN_end] at hO
      have e2 : (List.range n).map id = List.range n := List.map_id _
      rw [e2] at hO
      have HO : Hid (wr.ownsRow w.heap.size 3 1 (.slice (some ⟨w.heap.size, 0, none⟩) n n) n (nC (List.range n))) := hO
      have HB : Hid (Below w.heap.size w wr) := hB
      have HA : Hid (wr.heap[w.heap.size + 1]? = some (.cells #[.slice (some ⟨w.heap.size, 0, none⟩) n n] 22 (0, 0))) := hA
      clear hO hB e e2 hA
      go_wp2_with fail
      go_ret
      refine ⟨w.heap.size + 1, w.heap.size, wr.heap.size, rfl, ((below_new _ _).block _ (Array.getElem?_eq_some_iff.1 HA.out).1).trans HA.out, HO.out.alloc _, heap_alloc_last _ _, by omega, HB.out.size, go_on HB.out (below_new _ _)⟩

set_option maxHeartbeats 4000000 in
set_option maxRecDepth 100000 in
theorem parted_any (va vb : Value) (A B : Aut) (w : World) (ha : AR w va A) (hb : AR w vb B) (hn : A.ac.length ≤ 4096) (hm : B.ac.length ≤ 4096) :
    Calls Try.prog 37 #[va, vb] w fun e w' => ∃ ab g tb jb xb O k an sa sc, e = .returned (.func (.func 57) #[] #[.pointer (some ⟨jb, 0, none⟩), .pointer (some ⟨xb, 0, none⟩)]) ∧ FP ab g tb jb xb (A.ac.length + B.ac.length) A.ac.length #[k, an, .slice sa A.ac.length sc] [] O w' ∧ (∀ b, O b → w.heap.size ≤ b) ∧ Below w.heap.size w w' := by
  obtain ⟨an, cn, aa, ca, rfl, _, _⟩ := ha.is
  obtain ⟨bn, dn, ba, da, rfl, _, _⟩ := hb.is
  clear ha hb
  obtain ⟨N, hN⟩ : ∃ N, A.ac.length + B.ac.length = N := ⟨_, rfl⟩
  have hw : IntKind.i64.wrap ((A.ac.length : Int) + (B.ac.length : Int)) = (N : Int) := by rw [IntKind.wrap_i64]; omega
  have HNE : Hid (A.ac.length + B.ac.length = N) := hN
  have hN8 : N ≤ 8192 := by omega
  clear hN
  obtain ⟨V, hV⟩ : ∃ V, V = (w.alloc (.cells #[.int .i64 A.k, .slice an A.nx.length cn, .slice aa A.ac.length ca] 25)).alloc (.cells #[.int .i64 B.k, .slice bn B.nx.length dn, .slice ba B.ac.length da] 25) := ⟨_, rfl⟩
  have HVE : Hid (V = (w.alloc (.cells #[.int .i64 A.k, .slice an A.nx.length cn, .slice aa A.ac.length ca] 25)).alloc (.cells #[.int .i64 B.k, .slice bn B.nx.length dn, .slice ba B.ac.length da] 25)) := hV
  have HBV : Hid (Below w.heap.size w V) := by show Below _ _ _; rw [hV]; exact go_on (below_new _ _) (below_new _ _)
  have HXB : Hid (V.heap[w.heap.size]? = some (.cells #[.int .i64 A.k, .slice an A.nx.length cn, .slice aa A.ac.length ca] 25 (0, 0))) := by
    show V.heap[w.heap.size]? = _
    rw [hV]
    exact ((below_new _ _).block _ (by simp)).trans (heap_alloc_last _ _)
  clear hV
  go_enter Try.func37, Try.ntmps37
  go_wp2_with fail
  rw [← HVE.out]
  refine (trees_any N hN8 V).mono ?_
  rintro e w1 ⟨ab, g, tb, rfl, ha, hr, ht, la, lt, hb⟩
  have HF : Hid (FP ab g tb w1.heap.size w.heap.size (A.ac.length + B.ac.length) A.ac.length #[.int .i64 A.k, .slice an A.nx.length cn, .slice aa A.ac.length ca] [] (TO ab g tb w1.heap.size w.heap.size) (w1.alloc (.cells #[(.func (.func 69) #[] #[.pointer (some ⟨tb, 0, none⟩), .pointer (some ⟨ab, 0, none⟩)])] 84))) := by
    refine ⟨List.range N, fun _ => 0, ?_, ?_, rfl⟩
    · rw [HNE.out]; exact UF.id N
    · rw [HNE.out]
      have hx := (hb.block _ (Array.getElem?_eq_some_iff.1 HXB.out).1).trans HXB.out
      exact ⟨((below_new _ _).block _ (Array.getElem?_eq_some_iff.1 ha).1).trans ha, (own_mono hr (Nat.zero_le _)).alloc _, ((below_new _ _).block _ (Array.getElem?_eq_some_iff.1 ht).1).trans ht, heap_alloc_last _ _, ((below_new _ _).block _ (Array.getElem?_eq_some_iff.1 hx).1).trans hx⟩
  have HOL : Hid (∀ b, TO ab g tb w1.heap.size w.heap.size b → w.heap.size ≤ b) := fun b q => by
    have h1 := HBV.out.size
    have h2 := hb.size
    have h3 : V.heap.size ≤ g := (own_blk hr rfl).1
    rcases q with q | q | q | q | q <;> omega
  have HB : Hid (Below w.heap.size w (w1.alloc (.cells #[(.func (.func 69) #[] #[.pointer (some ⟨tb, 0, none⟩), .pointer (some ⟨ab, 0, none⟩)])] 84))) := go_on (go_on HBV.out hb) (below_new _ _)
  clear ha hr ht la lt hb hw
  go_wp2_with fail
  go_ret
  exact ⟨ab, g, tb, w1.heap.size, w.heap.size, _, _, _, _, _, rfl, HF.out, HOL.out, HB.out⟩
end Go.Proofs.Ytggheiblgghpkaa

namespace Go.Proofs.Ytggheiblgghpkaa
open Go Go.RowKit Go.Lib
set_option linter.unusedVariables false

theorem Try.info_pairE : (Try.prog.info? 77).map (·.size) = some 2 := by kernel_rfl
theorem results_pairE {fn : Func} {p : Tmp} (h : fn.results = #[.cell p 77]) {tmps : Array Value} {b : Nat} {arr : Array Value} {w : World} (hp : tmps.getD p undef = .pointer (some ⟨b, 0, none⟩)) (hc : w.heap[b]? = some (.cells arr 77 (0, 0))) (hs : arr.size = 2) :
    (results fn tmps).run Try.prog w = .ok (.agg arr) w :=
  results_cell_row h tmps w b 77 arr (0, 0) _ hp hc Try.underlying77 rfl (by rw [Try.info_pairE, hs])

set_option maxHeartbeats 8000000 in
set_option maxRecDepth 100000 in
theorem estep_any (va vb : Value) (A B : Aut) (w : World) (ha : AR w va A) (hb : AR w vb B) (G : Good A) (H : Good B) (hkk : B.k = A.k) (x y c : Nat) (hx : x < A.ac.length) (hy : y < B.ac.length) (hc : (c : Int) < A.k) :
    Calls Try.prog 54 #[va, vb, peV x y, .int .i64 c] w fun e w' => e = .returned (peV (dN A x c) (dN B y c)) ∧ Below w.heap.size w w' := by
  obtain ⟨an, cn, aa, ca, ea, k1, k2⟩ := ha.is
  obtain ⟨bn, dn, ba, da, eb, l1, l2⟩ := hb.is
  have hn2 := G.n2
  have hm2 := H.n2
  obtain ⟨a1, a2, a3⟩ := G.at hx hc
  obtain ⟨b1, b2, b3⟩ := H.at hy (by rw [hkk]; exact hc)
  rw [hkk] at b1 b2
  have hk1 := G.k1
  have hk8 := G.k8
  obtain ⟨gx, ox, rfl, hg1, n1⟩ := k1.int a1
  obtain ⟨gy, oy, rfl, hg2, n2⟩ := l1.int b1
  rw [a2] at n1
  rw [b2] at n2
  obtain ⟨D1, hD1⟩ : ∃ D, dN A x c = D := ⟨_, rfl⟩
  obtain ⟨D2, hD2⟩ : ∃ D, dN B y c = D := ⟨_, rfl⟩
  rw [hD1] at n1 a3 ⊢
  rw [hD2] at n2 b3 ⊢
  obtain ⟨K0, hK0⟩ : ∃ K0, A.k.toNat = K0 := ⟨_, rfl⟩
  have hKI : A.k = (K0 : Int) := by omega
  have hK08 : K0 ≤ 8 := by omega
  rw [hK0] at n1 n2 a1 b1
  have u1 : (x : Int) * A.k = ((x * K0 : Nat) : Int) := by rw [hKI]; simp
  have u2 : (y : Int) * A.k = ((y * K0 : Nat) : Int) := by rw [hKI]; simp
  have t1 : x * K0 ≤ 4095 * 8 := Nat.mul_le_mul (by omega) hK08
  have t2 : y * K0 ≤ 4095 * 8 := Nat.mul_le_mul (by omega) hK08
  obtain ⟨p1, hp1⟩ : ∃ p, x * K0 = p := ⟨_, rfl⟩
  obtain ⟨p2, hp2⟩ : ∃ p, y * K0 = p := ⟨_, rfl⟩
  rw [hp1] at u1 t1 n1 a1
  rw [hp2] at u2 t2 n2 b1
  obtain ⟨q1, hq1⟩ : ∃ q, p1 + c = q := ⟨_, rfl⟩
  obtain ⟨q2, hq2⟩ : ∃ q, p2 + c = q := ⟨_, rfl⟩
  rw [hq1] at n1 a1
  rw [hq2] at n2 b1
  have e1 : IntKind.i64.wrap ((x : Int) * A.k) = (p1 : Int) := by rw [u1, IntKind.wrap_i64]; omega
  have e2 : IntKind.i64.wrap ((y : Int) * A.k) = (p2 : Int) := by rw [u2, IntKind.wrap_i64]; omega
  have e3 : IntKind.i64.wrap ((p1 : Int) + c) = (q1 : Int) := by rw [IntKind.wrap_i64]; omega
  have e4 : IntKind.i64.wrap ((p2 : Int) + c) = (q2 : Int) := by rw [IntKind.wrap_i64]; omega
  have e5 : IntKind.u16.wrap (D1 : Int) = (D1 : Int) := by rw [IntKind.wrap_u16]; omega
  have e6 : IntKind.u16.wrap (D2 : Int) = (D2 : Int) := by rw [IntKind.wrap_u16]; omega
  have e7 : IntKind.i64.wrap (x : Int) = (x : Int) := by rw [IntKind.wrap_i64]; omega
  have e8 : IntKind.i64.wrap (y : Int) = (y : Int) := by rw [IntKind.wrap_i64]; omega
  have g1 : (q1 : Int) < A.nx.length := by omega
  have g2 : (q2 : Int) < B.nx.length := by omega
  rw [hkk] at eb
  subst ea
  subst eb
  obtain ⟨V, hV⟩ : ∃ V, V = ((((w.alloc (.cells #[.int .i64 A.k, .slice (some ⟨gx, ox, none⟩) A.nx.length cn, .slice aa A.ac.length ca] 25)).alloc (.cells #[.int .i64 A.k, .slice (some ⟨gy, oy, none⟩) B.nx.length dn, .slice ba B.ac.length da] 25)).alloc (.cells #[.int .u16 (x : Int), .int .u16 (y : Int)] 77)).alloc (.cells #[.int .u16 0, .int .u16 0] 77)) := ⟨_, rfl⟩
  have hBV : Below w.heap.size w V := by rw [hV]; exact go_on (go_on (go_on (below_new _ _) (below_new _ _)) (below_new _ _)) (below_new _ _)
  have r1 : RowAt V w.heap.size #[.int .i64 A.k, .slice (some ⟨gx, ox, none⟩) A.nx.length cn, .slice aa A.ac.length ca] := by rw [hV]; exact (((RowAt.last _ _ _).alloc _).alloc _).alloc _
  have r2 : RowAt V (w.heap.size + 1) #[.int .i64 A.k, .slice (some ⟨gy, oy, none⟩) B.nx.length dn, .slice ba B.ac.length da] := by
    have := RowAt.last (w.alloc (.cells #[.int .i64 A.k, .slice (some ⟨gx, ox, none⟩) A.nx.length cn, .slice aa A.ac.length ca] 25)) #[.int .i64 A.k, .slice (some ⟨gy, oy, none⟩) B.nx.length dn, .slice ba B.ac.length da] 25
    rw [World.size_alloc] at this
    rw [hV]; exact (this.alloc _).alloc _
  have r3 : RowAt V (w.heap.size + 1 + 1) #[.int .u16 (x : Int), .int .u16 (y : Int)] := by
    have := RowAt.last ((w.alloc (.cells #[.int .i64 A.k, .slice (some ⟨gx, ox, none⟩) A.nx.length cn, .slice aa A.ac.length ca] 25)).alloc (.cells #[.int .i64 A.k, .slice (some ⟨gy, oy, none⟩) B.nx.length dn, .slice ba B.ac.length da] 25)) #[.int .u16 (x : Int), .int .u16 (y : Int)] 77
    rw [World.size_alloc, World.size_alloc] at this
    rw [hV]; exact this.alloc _
  have r4 : V.heap[w.heap.size + 1 + 1 + 1]? = some (.cells #[.int .u16 0, .int .u16 0] 77 (0, 0)) := by
    have := heap_alloc_last (((w.alloc (.cells #[.int .i64 A.k, .slice (some ⟨gx, ox, none⟩) A.nx.length cn, .slice aa A.ac.length ca] 25)).alloc (.cells #[.int .i64 A.k, .slice (some ⟨gy, oy, none⟩) B.nx.length dn, .slice ba B.ac.length da] 25)).alloc (.cells #[.int .u16 (x : Int), .int .u16 (y : Int)] 77)) (.cells #[.int .u16 0, .int .u16 0] 77)
    rw [World.size_alloc, World.size_alloc, World.size_alloc] at this
    rw [hV]; exact this
  have m1 : V.cell? ⟨gx, ox + q1, none⟩ = some (.int .i64 (D1 : Int)) := (below_cell hBV hg1).trans n1
  have m2 : V.cell? ⟨gy, oy + q2, none⟩ = some (.int .i64 (D2 : Int)) := (below_cell hBV hg2).trans n2
  have HVE : Hid (V = ((((w.alloc (.cells #[.int .i64 A.k, .slice (some ⟨gx, ox, none⟩) A.nx.length cn, .slice aa A.ac.length ca] 25)).alloc (.cells #[.int .i64 A.k, .slice (some ⟨gy, oy, none⟩) B.nx.length dn, .slice ba B.ac.length da] 25)).alloc (.cells #[.int .u16 (x : Int), .int .u16 (y : Int)] 77)).alloc (.cells #[.int .u16 0, .int .u16 0] 77))) := hV
  have HBV : Hid (Below w.heap.size w V) := hBV
  have HR4 : Hid (V.heap[w.heap.size + 1 + 1 + 1]? = some (.cells #[.int .u16 0, .int .u16 0] 77 (0, 0))) := r4
  have c1 := r1.cell
  have c2 := r2.cell
  have c3 := r3.cell
  have c4 : V.cell? ⟨w.heap.size + 1 + 1 + 1, 0, none⟩ = some (.int .u16 0) := cell_of r4
  have c5 : V.cell? ⟨w.heap.size + 1 + 1 + 1, 1, none⟩ = some (.int .u16 0) := cell_of r4
  have c6 : ∀ j, V.frozen? ⟨w.heap.size + 1 + 1 + 1, j, none⟩ = false := fun j => froz_of r4
  clear ha hb k1 k2 l1 l2 G H hkk hk1 hk8 hK0 hKI hK08 u1 u2 t1 t2 hp1 hp2 hq1 hq2 hD1 hD2 n1 n2 a1 a2 b1 b2 hg1 hg2 hV hBV r1 r2 r3 r4
  go_enter Try.func54, Try.ntmps54
  go_wp2_with fail
  rw [← HVE.out]
  have k1 : ∀ o, V.drew.cell? ⟨w.heap.size, o, none⟩ = (#[.int .i64 A.k, .slice (some ⟨gx, ox, none⟩) A.nx.length cn, .slice aa A.ac.length ca] : Array Value)[o]? := c1
  have k2 : ∀ o, V.drew.cell? ⟨w.heap.size + 1, o, none⟩ = (#[.int .i64 A.k, .slice (some ⟨gy, oy, none⟩) B.nx.length dn, .slice ba B.ac.length da] : Array Value)[o]? := c2
  have k3 : ∀ o, V.drew.cell? ⟨w.heap.size + 1 + 1, o, none⟩ = (#[.int .u16 (x : Int), .int .u16 (y : Int)] : Array Value)[o]? := c3
  have k4 : V.drew.cell? ⟨gx, ox + q1, none⟩ = some (.int .i64 (D1 : Int)) := m1
  have k5 : V.drew.cell? ⟨gy, oy + q2, none⟩ = some (.int .i64 (D2 : Int)) := m2
  have k6 : V.drew.cell? ⟨w.heap.size + 1 + 1 + 1, 0, none⟩ = some (.int .u16 0) := c4
  have k7 : V.drew.cell? ⟨w.heap.size + 1 + 1 + 1, 1, none⟩ = some (.int .u16 0) := c5
  have k8 : ∀ j, V.drew.frozen? ⟨w.heap.size + 1 + 1 + 1, j, none⟩ = false := c6
  have f0 : V.drew.frozen? ⟨w.heap.size + 1 + 1 + 1, 0, none⟩ = false := c6 0
  have f1 : V.drew.frozen? ⟨w.heap.size + 1 + 1 + 1, 1, none⟩ = false := c6 1
  have r5 : (V.drew.setCell ⟨w.heap.size + 1 + 1 + 1, 0, none⟩ (.int .u16 (D1 : Int))).heap[w.heap.size + 1 + 1 + 1]? = some (.cells #[.int .u16 (D1 : Int), .int .u16 0] 77 (0, 0)) := heap_set (w := V.drew) HR4.out
  have f2 : (V.drew.setCell ⟨w.heap.size + 1 + 1 + 1, 0, none⟩ (.int .u16 (D1 : Int))).cell? ⟨w.heap.size + 1 + 1 + 1, 1, none⟩ = some (.int .u16 0) := cell_of r5
  have f3 : (V.drew.setCell ⟨w.heap.size + 1 + 1 + 1, 0, none⟩ (.int .u16 (D1 : Int))).frozen? ⟨w.heap.size + 1 + 1 + 1, 1, none⟩ = false := froz_of r5
  clear c1 c2 c3 m1 m2 r5 f2 f3
  go_region
  all_goals (
    have F1 : ((V.setCell ⟨w.heap.size + 1 + 1 + 1, 0, none⟩ (.int .u16 (D1 : Int))).setCell ⟨w.heap.size + 1 + 1 + 1, 1, none⟩ (.int .u16 (D2 : Int))).heap[w.heap.size + 1 + 1 + 1]? = some (.cells #[.int .u16 (D1 : Int), .int .u16 (D2 : Int)] 77 (0, 0)) := heap_set (heap_set HR4.out)
    have F2 : Below w.heap.size w ((V.setCell ⟨w.heap.size + 1 + 1 + 1, 0, none⟩ (.int .u16 (D1 : Int))).setCell ⟨w.heap.size + 1 + 1 + 1, 1, none⟩ (.int .u16 (D2 : Int))) := (HBV.out.setCell (p := ⟨w.heap.size + 1 + 1 + 1, 0, none⟩) (by show _ ≤ w.heap.size + 1 + 1 + 1; omega) _).setCell (p := ⟨w.heap.size + 1 + 1 + 1, 1, none⟩) (by show _ ≤ w.heap.size + 1 + 1 + 1; omega) _
    have G1 : Hid _ := F1
    have G2 : Hid _ := F2
    clear F1 F2
    go_wp2_with fail
    exact bodyPost_ret (results_pairE rfl rfl G1.out rfl) rfl ⟨rfl, ⟨G2.out.os, G2.out.tape, G2.out.output, G2.out.size, G2.out.block⟩⟩)
end Go.Proofs.Ytggheiblgghpkaa

namespace Go.Proofs.Ytggheiblgghpkaa
open Go Go.RowKit Go.Lib
set_option linter.unusedVariables false

/-- A meeting's cells. -/
def emC (K : Nat) (n : Nod (Nat × Nat)) : List Value := [.int .u16 (n.p.1 : Nat), .int .u16 (n.p.2 : Nat), .int .u32 ((n.u * K + n.c : Nat) : Int)]
theorem emC_len (K : Nat) (n : Nod (Nat × Nat)) : (emC K n).length = 3 := rfl
theorem em_cell {w : World} {base g cap K : Nat} {e : TypeId} {Q : List (Nod (Nat × Nat))} (h : w.ownsRow base e 3 (.slice (some ⟨g, 0, none⟩) Q.length cap) Q.length (Q.flatMap (emC K))) {i : Nat} {n : Nod (Nat × Nat)} (hi : Q[i]? = some n) {j : Nat} (hj : j < 3) : w.cell? ⟨g, i * 3 + j, none⟩ = (emC K n)[j]? := by
  have hl := (List.getElem?_eq_some_iff.1 hi).1
  rw [h.cellAt (i * 3 + j) (by omega), flat_get (emC_len K) Q i n j hi hj]

set_option maxHeartbeats 4000000 in
set_option maxRecDepth 100000 in
theorem elast_any (base g cap : Nat) (Q : List (Nod (Nat × Nat))) (k : Nat) (hk1 : 1 ≤ k) (hk : k ≤ 8) (hQ : Q.length ≤ 16777216) (hU : Ups k Q) (n0 : Nod (Nat × Nat)) (h0 : Q[Q.length - 1]? = some n0) (w : World) (h : w.ownsRow base 80 3 (.slice (some ⟨g, 0, none⟩) Q.length cap) Q.length (Q.flatMap (emC k))) :
    Calls Try.prog 55 #[.int .i64 k, .slice (some ⟨g, 0, none⟩) Q.length cap] w fun e w' => e = .returned (.string ⟨(lB n0.w).toArray⟩) ∧ Below w.heap.size w w' := by
  obtain ⟨i0, hi, hz0, hz1, hz2⟩ := info_parts Try.info_u8
  have HU : Hid (Ups k Q) := hU
  have HQC : Hid (∀ y, Below w.heap.size w y → ∀ (i : Nat) (n : Nod (Nat × Nat)), Q[i]? = some n → y.cell? ⟨g, i * 3 + 2, none⟩ = some (.int .u32 ((n.u * k + n.c : Nat) : Int))) := fun y hy i n hin => em_cell (own_below h hy) hin (j := 2) (by omega)
  have h2 := (List.getElem?_eq_some_iff.1 h0).1
  have HL0 : Hid (n0.w.length ≤ 16777216) := by
    have h1 := hU.len _ n0 h0
    show _ ≤ _
    omega
  obtain ⟨L, hL⟩ : ∃ L, Q.length - 1 = L := ⟨_, rfl⟩
  have hwL : IntKind.i64.wrap ((Q.length : Int) - 1) = (L : Int) := by rw [IntKind.wrap_i64]; omega
  rw [hL] at h0
  clear h hU hL
  go_enter Try.func55, Try.ntmps55
  go_wp2_with fail
  go_loopw [6, 5, 7] (fun vs vo _ wr => ∃ (t : Nat) (n : Nod (Nat × Nat)) (l : List UInt8), vs = .int .i64 t ∧ Q[t]? = some n ∧ wr.ownsRow w.heap.size 5 1 vo l.length (byteCells l) ∧ lB n0.w = lB n.w ++ l.reverse ∧ Below w.heap.size w wr) (fun vs _ _ _ => (intOf vs).toNat)
  case atStart => exact ⟨L, n0, [], rfl, h0, World.ownsRow_nil _ _ _ _, by simp, Below.refl _ _⟩
  case round =>
    clear hwL
    obtain ⟨t, n, l, rfl, ht, ho, hlw, hb⟩ := hrel
    obtain ⟨va, vc, rfl⟩ := own_shape ho
    have HO : Hid (wr.ownsRow w.heap.size 5 1 (.slice va l.length vc) l.length (byteCells l)) := ho
    have HLW : Hid (lB n0.w = lB n.w ++ l.reverse) := hlw
    have HB : Hid (Below w.heap.size w wr) := hb
    have htQ := (List.getElem?_eq_some_iff.1 ht).1
    have hll : l.length ≤ 16777216 := by
      have h1 := congrArg List.length hlw
      have h2 := HL0.out
      simp [lB_len] at h1
      omega
    have hws := hb.size
    by_cases ht0 : t = 0
    · subst ht0
      have HE : Hid (l.reverse = lB n0.w) := by show _ = _; rw [HLW.out, HU.out.1 n ht]; simp [lB]
      clear ho hlw hb
      go_wp2_with fail
      refine (slReverse_any w.heap.size _ l _ HO.out (by omega)).mono ?_
      rintro e w2 ⟨rfl, ho2, hb2⟩
      have hbb : Below w.heap.size w w2 := HB.out.trans hb2
      have hcv := run_string_own w.heap.size (.slice va l.length vc) l.reverse w2 (by rw [List.length_reverse]; exact ho2)
      rw [HE.out] at hcv
      clear ho2 hb2
      go_wp2_with fail
      go_ret
      exact ⟨rfl, hbb⟩
    · obtain ⟨m, m1, m2, m3, m4⟩ := HU.out.2 t n ht (by omega)
      have ht0I : ¬ (t : Int) = 0 := by omega
      have htI : (t : Int) < Q.length := by omega
      have q1 := HQC.out wr hb t n ht
      obtain ⟨c, hc⟩ : ∃ c, UInt8.ofNat (97 + n.c) = c := ⟨_, rfl⟩
      have hcn : c.toNat = 97 + n.c := by rw [← hc, UInt8.toNat_ofNat']; omega
      obtain ⟨u, hu⟩ : ∃ u, n.u = u := ⟨_, rfl⟩
      obtain ⟨a, hae⟩ : ∃ a, n.c = a := ⟨_, rfl⟩
      rw [hu, hae] at q1
      rw [hu] at m1 m2
      rw [hae] at m4 hcn
      have hub : u * k ≤ 16777216 * 8 := Nat.mul_le_mul (by omega) hk
      obtain ⟨by', hby⟩ : ∃ b, u * k + a = b := ⟨_, rfl⟩
      rw [hby] at q1
      have hmodN : by' % k = a := by rw [← hby, Nat.mul_comm, Nat.mul_add_mod, Nat.mod_eq_of_lt m4]
      have hdivN : by' / k = u := by rw [← hby, Nat.mul_comm, Nat.mul_add_div (by omega), Nat.div_eq_of_lt m4, Nat.add_zero]
      have hrem : (by' : Int).tmod (k : Int) = (a : Int) := by rw [Int.tmod_eq_emod_of_nonneg (by omega), ← hmodN]; rfl
      have hquo : (by' : Int).tdiv (k : Int) = (u : Int) := by rw [Int.tdiv_eq_ediv_of_nonneg (by omega), ← hdivN]; rfl
      have hwb : IntKind.i64.wrap (by' : Int) = (by' : Int) := by rw [IntKind.wrap_i64]; omega
      have hwa : IntKind.i64.wrap (a : Int) = (a : Int) := by rw [IntKind.wrap_i64]; omega
      have hwa8 : IntKind.u8.wrap (a : Int) = (a : Int) := by rw [IntKind.wrap_u8]; omega
      have hw97 : IntKind.u8.wrap (97 + (a : Int)) = (c.toNat : Int) := by rw [IntKind.wrap_u8]; omega
      have hwu : IntKind.i64.wrap (u : Int) = (u : Int) := by rw [IntKind.wrap_i64]; omega
      have hK0 : ¬ (k : Int) = 0 := by omega
      have hKN : ¬ k = 0 := by omega
      have HNX : Hid (lB n0.w = lB m.w ++ (l ++ [c]).reverse) := by
        show _ = _
        have e : lB [n.c] = [c] := by show [UInt8.ofNat (97 + n.c)] = [c]; rw [hc]
        rw [HLW.out, m3, lB_append, e]
        simp
      have HM1 : Hid (Q[u]? = some m) := m1
      clear ho hlw hb hc hcn hu hae m3 m1 ht hby hmodN hdivN hub
      go_wp2_with (at_builtin; refine wpList_append_own _ rfl _ _ 98 rfl w.heap.size 5 i0 (.int .u8 0) 1 1 Try.underlying98 hi hz0 hz1 hz2 rfl (by decide) _ _ _ rfl (HO.out.alloc _) ⟨wr.heap.size, 0, none⟩ 1 1 [.int .u8 (c.toNat : Int)] rfl rfl (cell_one_new _ _ _) (by intro u hu; simp at hu; subst hu; rfl) (by unfold maxLen; omega) (by omega) (by simp; omega) ?_; intro v9 w9 ho9 hg9 _; have HO9 : Hid (w9.ownsRow w.heap.size 5 1 v9 (l ++ [c]).length (byteCells (l ++ [c]))) := (by show World.ownsRow _ _ _ _ _ _ _; rw [List.length_append]; exact own_snoc ho9); obtain ⟨va9, vc9, rfl⟩ := own_shape ho9; have hb9 : Below w.heap.size w w9 := (HB.out.alloc HB.out.size _).grown hg9 (by simp; omega) (fun g hg => (HO.out.lt g hg).1); have HB9 : Hid (Below w.heap.size w w9) := hb9; clear ho9 hg9 hb9)
      go_roundw
      case rel => exact ⟨u, m, l ++ [c], by go_num, HM1.out, HO9.out, HNX.out, HB9.out⟩
      case measure => simp [intOf]; omega
end Go.Proofs.Ytggheiblgghpkaa
