/- equal: unmet's function. -/
import Derived.Test.YtceoceecgekkjaaIa
import Derived.Deep.RegionHeld3
import Derived.Deep.DeepCutAuto
namespace Go.Proofs.Ytceoceecgekkjaa
open Go Go.RowKit Go.Lib Go.Maps
set_option linter.unusedVariables false
attribute [-instance] instBEqProd

/-- What a function that tells which pairs are fresh leaves: all blocks but its own stay. -/
structure FK (O O' : Nat → Prop) (w w' : World) : Prop where
  os : w'.os = w.os
  tape : w'.tape = w.tape
  output : w'.output = w.output
  size : w.heap.size ≤ w'.heap.size
  keep : ∀ b, b < w.heap.size → ¬ O b → w'.heap[b]? = w.heap[b]?
  own : ∀ b, O' b → O b ∨ w.heap.size ≤ b
def q64 (T : List Nat) : List Value := T.map fun (n : Nat) => Value.int .u64 ((n : Nat) : Int)
theorem q64_len (T : List Nat) : (q64 T).length = T.length := by simp [q64]
theorem q64_get {T : List Nat} {i : Nat} (h : i < T.length) : (q64 T)[i]? = some (.int .u64 (T.getD i 0 : Nat)) := by simp [q64, h]
theorem q64_set (T : List Nat) (i x : Nat) : q64 (T.set i x) = (q64 T).set i (.int .u64 (x : Int)) := by unfold q64; rw [List.map_set]
theorem q64_append (a b : List Nat) : q64 (a ++ b) = q64 a ++ q64 b := by simp [q64]
theorem or_u64' (a b : Nat) (ha : a < 18446744073709551616) (hb : b < 18446744073709551616) : bits .or .u64 (a : Int) (b : Int) = ((a ||| b : Nat) : Int) := bits_or_u64_nat a b ha hb
theorem and_u64' (a b : Nat) (ha : a < 18446744073709551616) (hb : b < 18446744073709551616) : bits .and .u64 (a : Int) (b : Int) = ((a &&& b : Nat) : Int) := bits_and_u64_nat a b ha hb
def okE (c : Nat × Nat) : Prop := c.1 < 64 ∧ c.2 < 64
theorem mem_upd {P : List (Nat × Nat)} {x y : Nat} (q : Nat × Nat) : q ∈ (if decide ((x, y) ∉ P) then P ++ [(x, y)] else P) ↔ q ∈ P ∨ q = (x, y) := by
  by_cases h : (x, y) ∈ P
  · rw [if_neg (by simpa using h)]
    constructor
    · exact fun z => .inl z
    · rintro (z | z)
      · exact z
      · rw [z]; exact h
  · rw [if_pos (by simpa using h)]
    simp
theorem Try.info_tile : (Try.prog.info? 91).map (fun i => (i.zero, i.size, i.bytes)) = some (some (.agg (#[.int .u64 0, .int .u64 0, .int .u64 0, .int .u64 0, .int .u64 0, .int .u64 0, .int .u64 0, .int .u64 0, .int .u64 0, .int .u64 0, .int .u64 0, .int .u64 0, .int .u64 0, .int .u64 0, .int .u64 0, .int .u64 0, .int .u64 0, .int .u64 0, .int .u64 0, .int .u64 0, .int .u64 0, .int .u64 0, .int .u64 0, .int .u64 0, .int .u64 0, .int .u64 0, .int .u64 0, .int .u64 0, .int .u64 0, .int .u64 0, .int .u64 0, .int .u64 0, .int .u64 0, .int .u64 0, .int .u64 0, .int .u64 0, .int .u64 0, .int .u64 0, .int .u64 0, .int .u64 0, .int .u64 0, .int .u64 0, .int .u64 0, .int .u64 0, .int .u64 0, .int .u64 0, .int .u64 0, .int .u64 0, .int .u64 0, .int .u64 0, .int .u64 0, .int .u64 0, .int .u64 0, .int .u64 0, .int .u64 0, .int .u64 0, .int .u64 0, .int .u64 0, .int .u64 0, .int .u64 0, .int .u64 0, .int .u64 0, .int .u64 0, .int .u64 0] : Array Value)), 64, 512) := by kernel_rfl
/-- The map of corners and the tiles in memory; n: how many tiles. -/
structure UX (mb mo tb : Nat) (C : List (Nat × Nat)) (n : Nat) (T : List Nat) (D : DataW Unit) (vt : Value) (w : World) : Prop where
  mi : MI klE okE D C
  m : w.heap[mb]? = some (.cells #[.map (some mo)] 86 (0, 0))
  t : w.heap[tb]? = some (.cells #[vt] 87 (0, 0))
  mp : w.ownsMap Try.prog 77 (plainElem Try.prog 3) mo C.length D
  row : w.ownsRow 0 91 64 vt n (q64 T)
theorem UX.keep {mb mo tb : Nat} {C : List (Nat × Nat)} {n : Nat} {T : List Nat} {D : DataW Unit} {vt : Value} {w w' : World} (h : UX mb mo tb C n T D vt w) (hk : ∀ b, (b = mb ∨ b = mo ∨ b = tb ∨ vt.ownBlock = some b) → w'.heap[b]? = w.heap[b]?) : UX mb mo tb C n T D vt w' :=
  ⟨h.mi, (hk mb (.inl rfl)).trans h.m, (hk tb (.inr (.inr (.inl rfl)))).trans h.t, map_keep h.mp (hk mo (.inr (.inl rfl))), own_keep h.row (fun b cur hb _ => hk b (.inr (.inr (.inr hb))))⟩
theorem UX.drew' {mb mo tb : Nat} {C : List (Nat × Nat)} {n : Nat} {T : List Nat} {D : DataW Unit} {vt : Value} {w : World} {a : Addr} {v : Value} (h : UX mb mo tb C n T D vt (w.setCell a v)) : UX mb mo tb C n T D vt (w.drew.setCell a v) := h.keep (fun _ _ => rfl)
theorem UX.below {mb mo tb : Nat} {C : List (Nat × Nat)} {n : Nat} {T : List Nat} {D : DataW Unit} {vt : Value} {w w' : World} (h : UX mb mo tb C n T D vt w) (hb : Below w.heap.size w w') : UX mb mo tb C n T D vt w' := h.keep (fun b hbb => hb.block b (by
  rcases hbb with rfl | rfl | rfl | q
  · exact (Array.getElem?_eq_some_iff.1 h.m).1
  · exact h.mp.lt
  · exact (Array.getElem?_eq_some_iff.1 h.t).1
  · exact (h.row.lt b q).2))
theorem UX.put {mb mo tb : Nat} {C : List (Nat × Nat)} {n : Nat} {T : List Nat} {D : DataW Unit} {vt : Value} {w w' : World} (h : UX mb mo tb C n T D vt w) {c : Nat × Nat} (hc : c ∉ C) (hok : okE c) (hmo : w'.ownsMap Try.prog 77 (plainElem Try.prog 3) mo (C.length + 1) (D.put (klE c) (.lit (.int .i64 (C.length : Nat))))) (hg : w.grownBy w' (some mo)) : UX mb mo tb (C ++ [c]) n T (D.put (klE c) (.lit (.int .i64 (C.length : Nat)))) vt w' := by
  obtain ⟨es, clock, hmb⟩ := map_blk h.mp
  have kc : ∀ (b : Nat) (cur : Array Value) (e : TypeId), w.heap[b]? = some (Obj.cells cur e (0, 0)) → w'.heap[b]? = w.heap[b]? := fun b cur e hb => hg.block b (Array.getElem?_eq_some_iff.1 hb).1 (fun e1 => by simp at e1; rw [e1, hmb] at hb; cases hb)
  refine ⟨h.mi.put (fun a b ha hb e => klE_inj (by have := ha.1; omega) (by have := ha.2; omega) (by have := hb.1; omega) (by have := hb.2; omega) e) h.mp.isMap (klE_key c) hok hc, (kc _ _ _ h.m).trans h.m, (kc _ _ _ h.t).trans h.t, by simpa using hmo, own_keep h.row (fun b cur _ hb => kc b cur _ hb)⟩
theorem UX.tile {mb mo tb : Nat} {C : List (Nat × Nat)} {n : Nat} {T : List Nat} {D : DataW Unit} {vt vt' : Value} {w w2 : World} {o : Obj} (h : UX mb mo tb C n T D vt w) (hg : (w.alloc o).grownBy w2 vt.ownBlock) (ho : w2.ownsRow 0 91 64 vt' (n + 1) (q64 T ++ (#[.int .u64 0, .int .u64 0, .int .u64 0, .int .u64 0, .int .u64 0, .int .u64 0, .int .u64 0, .int .u64 0, .int .u64 0, .int .u64 0, .int .u64 0, .int .u64 0, .int .u64 0, .int .u64 0, .int .u64 0, .int .u64 0, .int .u64 0, .int .u64 0, .int .u64 0, .int .u64 0, .int .u64 0, .int .u64 0, .int .u64 0, .int .u64 0, .int .u64 0, .int .u64 0, .int .u64 0, .int .u64 0, .int .u64 0, .int .u64 0, .int .u64 0, .int .u64 0, .int .u64 0, .int .u64 0, .int .u64 0, .int .u64 0, .int .u64 0, .int .u64 0, .int .u64 0, .int .u64 0, .int .u64 0, .int .u64 0, .int .u64 0, .int .u64 0, .int .u64 0, .int .u64 0, .int .u64 0, .int .u64 0, .int .u64 0, .int .u64 0, .int .u64 0, .int .u64 0, .int .u64 0, .int .u64 0, .int .u64 0, .int .u64 0, .int .u64 0, .int .u64 0, .int .u64 0, .int .u64 0, .int .u64 0, .int .u64 0, .int .u64 0, .int .u64 0] : Array Value).toList)) : w2.heap[tb]? = some (.cells #[vt] 87 (0, 0)) ∧ UX mb mo tb C (n + 1) (T ++ List.replicate 64 0) D vt' (w2.setCell ⟨tb, 0, none⟩ vt') := by
  have kt : ∀ (b : Nat) (O : Obj), w.heap[b]? = some O → (∀ cur : Array Value, O ≠ Obj.cells cur 91 (0, 0)) → w2.heap[b]? = w.heap[b]? := fun b O hb hne => by
    have hlt := (Array.getElem?_eq_some_iff.1 hb).1
    rw [hg.block b (by simp; omega) (fun e => by
      obtain ⟨_, cur, hc⟩ := own_blk h.row e.symm
      rw [hc, Option.some.injEq] at hb
      exact hne cur hb.symm)]
    exact (below_new w o).block b hlt
  have ht := (kt _ _ h.t (fun cur e => by injection e with _ e _; cases e)).trans h.t
  obtain ⟨es, clock, hmb⟩ := map_blk h.mp
  have hm2 := (kt _ _ h.m (fun cur e => by injection e with _ e _; cases e)).trans h.m
  have hmo2 := kt _ _ hmb (fun cur e => by cases e)
  have so : ∀ (b : Nat) (O : Obj), w2.heap[b]? = some O → (∀ cur : Array Value, O ≠ Obj.cells cur 87 (0, 0)) → (w2.setCell ⟨tb, 0, none⟩ vt').heap[b]? = w2.heap[b]? := fun b O hb hne => heap_set_other (fun q => by rw [q, ht, Option.some.injEq] at hb; exact hne _ hb.symm)
  refine ⟨ht, h.mi, (so _ _ hm2 (fun cur e => by injection e with _ e _; cases e)).trans hm2, heap_set ht, map_keep (map_keep h.mp hmo2) (so mo _ (hmo2.trans hmb) (fun cur e => by cases e)), ?_⟩
  have e1 : q64 (T ++ List.replicate 64 0) = q64 T ++ (#[.int .u64 0, .int .u64 0, .int .u64 0, .int .u64 0, .int .u64 0, .int .u64 0, .int .u64 0, .int .u64 0, .int .u64 0, .int .u64 0, .int .u64 0, .int .u64 0, .int .u64 0, .int .u64 0, .int .u64 0, .int .u64 0, .int .u64 0, .int .u64 0, .int .u64 0, .int .u64 0, .int .u64 0, .int .u64 0, .int .u64 0, .int .u64 0, .int .u64 0, .int .u64 0, .int .u64 0, .int .u64 0, .int .u64 0, .int .u64 0, .int .u64 0, .int .u64 0, .int .u64 0, .int .u64 0, .int .u64 0, .int .u64 0, .int .u64 0, .int .u64 0, .int .u64 0, .int .u64 0, .int .u64 0, .int .u64 0, .int .u64 0, .int .u64 0, .int .u64 0, .int .u64 0, .int .u64 0, .int .u64 0, .int .u64 0, .int .u64 0, .int .u64 0, .int .u64 0, .int .u64 0, .int .u64 0, .int .u64 0, .int .u64 0, .int .u64 0, .int .u64 0, .int .u64 0, .int .u64 0, .int .u64 0, .int .u64 0, .int .u64 0, .int .u64 0] : Array Value).toList := by rw [q64_append]; rfl
  rw [e1]
  exact own_keep ho (fun b cur _ hc => so b _ hc (fun cur' e => by injection e with _ e _; cases e))
theorem UX.mark {mb mo tb : Nat} {C : List (Nat × Nat)} {n g cap : Nat} {T : List Nat} {D : DataW Unit} {w : World} (h : UX mb mo tb C n T D (.slice (some ⟨g, 0, none⟩) n cap) w) (j x : Nat) : UX mb mo tb C n (T.set j x) D (.slice (some ⟨g, 0, none⟩) n cap) (w.setCell ⟨g, j, none⟩ (.int .u64 (x : Int))) := by
  obtain ⟨_, cur, hg⟩ := own_blk h.row rfl
  obtain ⟨es, clock, hmb⟩ := map_blk h.mp
  have so : ∀ (b : Nat) (O : Obj), w.heap[b]? = some O → (∀ cur : Array Value, O ≠ Obj.cells cur 91 (0, 0)) → (w.setCell ⟨g, j, none⟩ (.int .u64 (x : Int))).heap[b]? = w.heap[b]? := fun b O hb hne => heap_set_other (fun q => by rw [q, hg, Option.some.injEq] at hb; exact hne _ hb.symm)
  refine ⟨h.mi, (so _ _ h.m (fun cur e => by injection e with _ e _; cases e)).trans h.m, (so _ _ h.t (fun cur e => by injection e with _ e _; cases e)).trans h.t, map_keep h.mp (so mo _ hmb (fun cur e => by cases e)), ?_⟩
  rw [q64_set]
  exact (h.row.stored j (.int .u64 (x : Int))).1
/-- What stands between two calls. -/
def FU (mb mo tb : Nat) (P : List (Nat × Nat)) (O : Nat → Prop) (w : World) : Prop := ∃ C T D vt, UM P C T ∧ UX mb mo tb C C.length T D vt w ∧ O = (fun b => b = mb ∨ b = mo ∨ b = tb ∨ vt.ownBlock = some b)

def UnQ (mb mo tb : Nat) (P : List (Nat × Nat)) (O : Nat → Prop) (x y : Nat) (w : World) (e : Ending) (w' : World) : Prop := e = .returned (.bool (decide ((x, y) ∉ P))) ∧ ∃ O', FU mb mo tb (if decide ((x, y) ∉ P) then P ++ [(x, y)] else P) O' w' ∧ FK O O' w w'
theorem arr_one : ∀ u ∈ (#[.int .u64 0, .int .u64 0, .int .u64 0, .int .u64 0, .int .u64 0, .int .u64 0, .int .u64 0, .int .u64 0, .int .u64 0, .int .u64 0, .int .u64 0, .int .u64 0, .int .u64 0, .int .u64 0, .int .u64 0, .int .u64 0, .int .u64 0, .int .u64 0, .int .u64 0, .int .u64 0, .int .u64 0, .int .u64 0, .int .u64 0, .int .u64 0, .int .u64 0, .int .u64 0, .int .u64 0, .int .u64 0, .int .u64 0, .int .u64 0, .int .u64 0, .int .u64 0, .int .u64 0, .int .u64 0, .int .u64 0, .int .u64 0, .int .u64 0, .int .u64 0, .int .u64 0, .int .u64 0, .int .u64 0, .int .u64 0, .int .u64 0, .int .u64 0, .int .u64 0, .int .u64 0, .int .u64 0, .int .u64 0, .int .u64 0, .int .u64 0, .int .u64 0, .int .u64 0, .int .u64 0, .int .u64 0, .int .u64 0, .int .u64 0, .int .u64 0, .int .u64 0, .int .u64 0, .int .u64 0, .int .u64 0, .int .u64 0, .int .u64 0, .int .u64 0] : Array Value).toList, u.oneCell' = true := List.all_eq_true.1 (by rfl)

set_option maxHeartbeats 8000000 in
set_option maxRecDepth 100000 in
theorem unmet1_any (mb mo tb : Nat) (P : List (Nat × Nat)) (O : Nat → Prop) (w : World) (h : FU mb mo tb P O w) (x y : Nat) (hx : x < 4096) (hy : y < 4096) :
    Calls Try.prog 58 #[peV x y, .pointer (some ⟨mb, 0, none⟩), .pointer (some ⟨tb, 0, none⟩)] w (UnQ mb mo tb P O x y w) := by
  obtain ⟨C, T, D, vt, hU, hX, rfl⟩ := h
  obtain ⟨i0, hi, hz0, hz1, hz2⟩ := info_parts Try.info_tile
  obtain ⟨X, hXe⟩ : ∃ X, x / 64 = X := ⟨_, rfl⟩
  obtain ⟨Y, hYe⟩ : ∃ Y, y / 64 = Y := ⟨_, rfl⟩
  obtain ⟨l, hle⟩ : ∃ l, x % 64 = l := ⟨_, rfl⟩
  obtain ⟨k, hke⟩ : ∃ k, y % 64 = k := ⟨_, rfl⟩
  have hX64 : X < 64 := by omega
  have hY64 : Y < 64 := by omega
  have hl64 : l < 64 := by omega
  have hk64 : k < 64 := by omega
  have d1 : (x : Int).tdiv 64 = (X : Int) := by rw [Int.tdiv_eq_ediv_of_nonneg (by omega)]; omega
  have d2 : (y : Int).tdiv 64 = (Y : Int) := by rw [Int.tdiv_eq_ediv_of_nonneg (by omega)]; omega
  have d3 : (x : Int).tmod 64 = (l : Int) := by rw [Int.tmod_eq_emod_of_nonneg (by omega)]; omega
  have d4 : (y : Int).tmod 64 = (k : Int) := by rw [Int.tmod_eq_emod_of_nonneg (by omega)]; omega
  have f1 : IntKind.u16.wrap (X : Int) = (X : Int) := by rw [IntKind.wrap_u16]; omega
  have f2 : IntKind.u16.wrap (Y : Int) = (Y : Int) := by rw [IntKind.wrap_u16]; omega
  have f3 : IntKind.u16.wrap (l : Int) = (l : Int) := by rw [IntKind.wrap_u16]; omega
  have f4 : IntKind.u16.wrap (k : Int) = (k : Int) := by rw [IntKind.wrap_u16]; omega
  have HLK : Hid (x % 64 = l ∧ y % 64 = k) := ⟨hle, hke⟩
  have HCR : Hid (x / 64 = X ∧ y / 64 = Y) := ⟨hXe, hYe⟩
  have hkey : keyOf Try.prog 77 (peV X Y) = some (klE (X, Y)) := klE_of (s := (X, Y)) (by show X ≤ _; omega) (by show Y ≤ _; omega)
  have HX0 : Hid (UX mb mo tb C C.length T D vt w) := hX
  have HU : Hid (UM P C T) := hU
  have hhas := hX.mi.has (X, Y) ⟨hX64, hY64⟩
  have hnum := hX.mi.num (X, Y) ⟨hX64, hY64⟩
  have hfew0 := hU.few
  obtain ⟨ta, tc, hvt⟩ := own_shape hX.row
  subst hvt
  obtain ⟨w1, hw1⟩ : ∃ w1, w1 = (w.alloc (.cells #[.int .u16 (x : Int), .int .u16 (y : Int)] 77)).alloc (.cells #[.int .u16 (X : Int), .int .u16 (Y : Int)] 77) := ⟨_, rfl⟩
  have hb1 : Below w.heap.size w w1 := by rw [hw1]; exact go_on (below_new _ _) (below_new _ _)
  have HW1 : Hid (w1 = (w.alloc (.cells #[.int .u16 (x : Int), .int .u16 (y : Int)] 77)).alloc (.cells #[.int .u16 (X : Int), .int .u16 (Y : Int)] 77)) := hw1
  have HB1 : Hid (Below w.heap.size w w1) := hb1
  have HX1 : Hid (UX mb mo tb C C.length T D (.slice ta C.length tc) w1) := hX.below hb1
  have HP1 : Hid (RowAt w1 w.heap.size #[.int .u16 (x : Int), .int .u16 (y : Int)]) := by show RowAt _ _ _; rw [hw1]; exact (RowAt.last _ _ _).alloc _
  have HC1 : Hid (RowAt w1 (w.heap.size + 1) #[.int .u16 (X : Int), .int .u16 (Y : Int)]) := by
    have := RowAt.last (w.alloc (.cells #[.int .u16 (x : Int), .int .u16 (y : Int)] 77)) #[.int .u16 (X : Int), .int .u16 (Y : Int)] 77
    rw [World.size_alloc] at this
    show RowAt _ _ _
    rw [hw1]; exact this
  have cm : ((w.alloc (.cells #[.int .u16 (x : Int), .int .u16 (y : Int)] 77)).alloc (.cells #[.int .u16 (X : Int), .int .u16 (Y : Int)] 77)).cell? ⟨mb, 0, none⟩ = some (.map (some mo)) := by rw [← hw1]; exact cell_of HX1.out.m
  have HMO : Hid (((w.alloc (.cells #[.int .u16 (x : Int), .int .u16 (y : Int)] 77)).alloc (.cells #[.int .u16 (X : Int), .int .u16 (Y : Int)] 77)).ownsMap Try.prog 77 (plainElem Try.prog 3) mo C.length D) := by have := HX1.out.mp; rw [hw1] at this; exact this
  clear hXe hYe hle hke hX hU hw1 hb1
  by_cases hmem : (X, Y) ∈ C
  · have hnum2 := hnum hmem (.lit (.int .i64 0))
    rw [decide_eq_true hmem] at hhas
    obtain ⟨j, hj⟩ : ∃ j, C.idxOf (X, Y) = j := ⟨_, rfl⟩
    rw [hj] at hnum2
    have HJ : Hid (C[j]? = some (x / 64, y / 64)) := by show _ = _; rw [← hj, HCR.out.1, HCR.out.2]; exact idxOf_get hmem
    clear hnum hj hmem
    go_enter Try.func58, Try.ntmps58
    go_wp2_with (first
      | (at_lookup; refine wpList_lookup_own_ok_int _ rfl _ _ 86 rfl 77 3 .i64 keyE Try.und_mapE Try.und_int (Try.zero_int _) mo C.length D rfl HMO.out _ _ rfl hkey ?_; intro c0 hat hwc; rw [hnum2] at hat; injection hat with hat; injection hat with _ hat; subst hat; rw [hhas]; clear hwc))
    rw [← HW1.out]
    have HPK : Hid (∀ o, w1.cell? ⟨w.heap.size, o, none⟩ = (#[.int .u16 (x : Int), .int .u16 (y : Int)] : Array Value)[o]?) := HP1.out.cell
    obtain ⟨gt, rfl⟩ : ∃ gt, ta = some ⟨gt, 0, none⟩ := by
      have hjl := (List.getElem?_eq_some_iff.1 HJ.out).1
      rcases HX1.out.row.2 with ⟨_, h0⟩ | ⟨g', cap', cur, hv, _⟩
      · omega
      · simp only [Value.slice.injEq] at hv
        exact ⟨g', hv.1⟩
    have HX : Hid (UX mb mo tb C C.length T D (.slice (some ⟨gt, 0, none⟩) C.length tc) w1) := HX1.out
    obtain ⟨W, hW⟩ : ∃ W : Nat, 2 ^ k = W := ⟨_, rfl⟩
    have hW64 : W < 18446744073709551616 := by rw [← hW]; exact Nat.pow_lt_pow_right (a := 2) (m := k) (n := 64) (by omega) hk64
    have hWI : (2 : Int) ^ k = (W : Int) := by rw [← hW]; simp
    have hshl : IntKind.u64.wrap ((2 : Int) ^ k) = (W : Int) := by rw [hWI, IntKind.wrap_u64]; omega
    have HW : Hid (2 ^ k = W) := hW
    clear hW hWI
    have S0 : (∀ o, w1.drew.cell? ⟨w.heap.size, o, none⟩ = (#[.int .u16 (x : Int), .int .u16 (y : Int)] : Array Value)[o]?) ∧ Below w1.heap.size w1 w1.drew := ⟨HPK.out, (Below.refl _ _).drew⟩
    clear cm hkey hhas hnum2 HMO d1 d2 f1 f2
    go_region_held3 (fun z => (∀ o, z.cell? ⟨w.heap.size, o, none⟩ = (#[.int .u16 (x : Int), .int .u16 (y : Int)] : Array Value)[o]?) ∧ Below w1.heap.size w1 z) (first | exact S0 | assumption) (fail)
    clear S0
    obtain ⟨wk, hwk⟩ : ∃ wk, w1.drew = wk := ⟨_, rfl⟩
    rw [hwk]
    have hbk : Below w1.heap.size w1 wk := by rw [← hwk]; exact (Below.refl _ _).drew
    have HBK : Hid (Below w.heap.size w wk) := go_on HB1.out hbk
    have HXk : Hid (UX mb mo tb C C.length T D (.slice (some ⟨gt, 0, none⟩) C.length tc) wk) := HX.out.below hbk
    clear hwk hbk HX
    have HX : Hid (UX mb mo tb C C.length T D (.slice (some ⟨gt, 0, none⟩) C.length tc) wk) := HXk.out
    have hjl : j < C.length := (List.getElem?_eq_some_iff.1 HJ.out).1
    have hjI : (j : Int) < C.length := by omega
    have hlI : (l : Int) < 64 := by omega
    have hfew := HU.out.few
    have hll : j * 64 + l < T.length := by rw [HU.out.len]; omega
    have ht0 : wk.cell? ⟨tb, 0, none⟩ = some (.slice (some ⟨gt, 0, none⟩) C.length tc) := cell_of HX.out.t
    have hcz : wk.cell? ⟨gt, j * 64 + l, none⟩ = some (.int .u64 (T.getD (j * 64 + l) 0 : Nat)) := (HX.out.row.cellAt (j * 64 + l) (by rw [← HU.out.len]; exact hll)).trans (q64_get hll)
    have hfr : wk.frozen? ⟨gt, j * 64 + l, none⟩ = false := HX.out.row.frozenAt (j * 64 + l)
    have hbt := HU.out.lt (j * 64 + l)
    have hor := or_u64' (T.getD (j * 64 + l) 0) W hbt hW64
    have han := and_u64' (T.getD (j * 64 + l) 0) W hbt hW64
    have hbit := HU.out.bit hx hy HJ.out
    rw [HLK.out.1, HLK.out.2, HW.out] at hbit
    obtain ⟨P', hP'⟩ : ∃ P', (if decide ((x, y) ∉ P) then P ++ [(x, y)] else P) = P' := ⟨_, rfl⟩
    have hUM' := HU.out.mark hx hy HJ.out P' (fun q => by rw [← hP']; exact mem_upd q)
    rw [HLK.out.1, HLK.out.2, HW.out] at hUM'
    have hX' := HX.out.mark (j * 64 + l) (T.getD (j * 64 + l) 0 ||| W)
    obtain ⟨b0, hb0⟩ : ∃ b0, T.getD (j * 64 + l) 0 = b0 := ⟨_, rfl⟩
    rw [hb0] at hcz hor han hbit hUM' hX'
    obtain ⟨Z, hZ⟩ : ∃ Z : Nat, b0 ||| W = Z := ⟨_, rfl⟩
    obtain ⟨N, hN⟩ : ∃ N : Nat, b0 &&& W = N := ⟨_, rfl⟩
    rw [hZ] at hor hUM' hX'
    rw [hN] at han hbit
    have HFIN : Hid (FU mb mo tb P' (fun b => b = mb ∨ b = mo ∨ b = tb ∨ (Value.slice (some ⟨gt, 0, none⟩) C.length tc).ownBlock = some b) (wk.setCell ⟨gt, j * 64 + l, none⟩ (.int .u64 (Z : Int)))) := ⟨C, _, D, _, hUM', hX', rfl⟩
    have HPE : Hid ((if decide ((x, y) ∉ P) then P ++ [(x, y)] else P) = P') := hP'
    have HDC : Hid (decide ((x, y) ∉ P) = decide (N = 0)) := by
      show _ = _
      by_cases q : N = 0
      · rw [decide_eq_true q, decide_eq_true (hbit.1 q)]
      · rw [decide_eq_false q, decide_eq_false (fun z => q (hbit.2 z))]
    clear hP' hUM' hX' hb0 hZ hN hbit hbt hll
    by_cases hN0 : N = 0
    · subst hN0
      go_wp2_with fail
      go_ret
      refine ⟨?_, _, ?_, ⟨?_, ?_, ?_, ?_, fun b hb hO => ?_, fun b hb => .inl hb⟩⟩
      · rw [HDC.out]; rfl
      · rw [HPE.out]; exact HFIN.out
      · exact HBK.out.os
      · exact HBK.out.tape
      · exact HBK.out.output
      · have := HBK.out.size; simp [World.setCell]; omega
      · rw [heap_set_other (fun e => hO (.inr (.inr (.inr (by rw [e]; rfl)))))]
        exact HBK.out.block b hb
    · have hNI : ¬ (N : Int) = 0 := by omega
      have hNd : decide ((N : Int) = 0) = false := decide_eq_false hNI
      have hNb : ((N : Int) == 0) = false := by simpa using hNI
      go_wp2_with fail
      go_ret
      refine ⟨?_, _, ?_, ⟨?_, ?_, ?_, ?_, fun b hb hO => ?_, fun b hb => .inl hb⟩⟩
      · rw [HDC.out]; rw [decide_eq_false hN0]; rfl
      · rw [HPE.out]; exact HFIN.out
      · exact HBK.out.os
      · exact HBK.out.tape
      · exact HBK.out.output
      · have := HBK.out.size; simp [World.setCell]; omega
      · rw [heap_set_other (fun e => hO (.inr (.inr (.inr (by rw [e]; rfl)))))]
        exact HBK.out.block b hb
  · rw [decide_eq_false hmem] at hhas
    have HX1' : Hid (UX mb mo tb C C.length T D (.slice ta C.length tc) ((w.alloc (.cells #[.int .u16 (x : Int), .int .u16 (y : Int)] 77)).alloc (.cells #[.int .u16 (X : Int), .int .u16 (Y : Int)] 77))) := by have := HX1.out; rw [HW1.out] at this; exact this
    have ct1 : ((w.alloc (.cells #[.int .u16 (x : Int), .int .u16 (y : Int)] 77)).alloc (.cells #[.int .u16 (X : Int), .int .u16 (Y : Int)] 77)).cell? ⟨tb, 0, none⟩ = some (.slice ta C.length tc) := cell_of HX1'.out.t
    have HMM : Hid ((X, Y) ∉ C) := hmem
    have HOK : Hid (okE (X, Y)) := ⟨hX64, hY64⟩
    clear hnum hmem
    go_enter Try.func58, Try.ntmps58
    go_wp2_with (first
      | (at_lookup; refine wpList_lookup_own_ok_int _ rfl _ _ 86 rfl 77 3 .i64 keyE Try.und_mapE Try.und_int (Try.zero_int _) mo C.length D rfl HMO.out _ _ rfl hkey ?_; intro c0 hat hwc; rw [hhas]; clear hwc hat)
      | (at_mapUpdate; refine wpList_mapUpdate_own _ rfl _ _ _ 86 rfl 77 3 keyE Try.und_mapE _ mo C.length D rfl HMO.out (by unfold maxLen; omega) _ _ _ rfl rfl hkey _ [] (plainElem_int Try.und_int (wfN (by omega))) ?_; intro w5 hmo hmg; have hX5 := HX1'.out.put HMM.out HOK.out hmo hmg; have HX5 : Hid (UX mb mo tb (C ++ [(X, Y)]) C.length T (D.put (klE (X, Y)) (.lit (.int .i64 (C.length : Nat)))) (.slice ta C.length tc) w5) := hX5; have ct5 : w5.cell? ⟨tb, 0, none⟩ = some (.slice ta C.length tc) := cell_of hX5.t; have HG5 : Hid (((w.alloc (.cells #[.int .u16 (x : Int), .int .u16 (y : Int)] 77)).alloc (.cells #[.int .u16 (X : Int), .int .u16 (Y : Int)] 77)).grownBy w5 (some mo)) := hmg; clear hmo hmg hX5)
      | (at_builtin; refine wpList_append_own_at _ rfl _ _ 87 rfl 0 91 i0 (.agg (#[.int .u64 0, .int .u64 0, .int .u64 0, .int .u64 0, .int .u64 0, .int .u64 0, .int .u64 0, .int .u64 0, .int .u64 0, .int .u64 0, .int .u64 0, .int .u64 0, .int .u64 0, .int .u64 0, .int .u64 0, .int .u64 0, .int .u64 0, .int .u64 0, .int .u64 0, .int .u64 0, .int .u64 0, .int .u64 0, .int .u64 0, .int .u64 0, .int .u64 0, .int .u64 0, .int .u64 0, .int .u64 0, .int .u64 0, .int .u64 0, .int .u64 0, .int .u64 0, .int .u64 0, .int .u64 0, .int .u64 0, .int .u64 0, .int .u64 0, .int .u64 0, .int .u64 0, .int .u64 0, .int .u64 0, .int .u64 0, .int .u64 0, .int .u64 0, .int .u64 0, .int .u64 0, .int .u64 0, .int .u64 0, .int .u64 0, .int .u64 0, .int .u64 0, .int .u64 0, .int .u64 0, .int .u64 0, .int .u64 0, .int .u64 0, .int .u64 0, .int .u64 0, .int .u64 0, .int .u64 0, .int .u64 0, .int .u64 0, .int .u64 0, .int .u64 0] : Array Value)) 64 512 Try.underlying87 hi hz0 hz1 hz2 rfl (by decide) _ _ _ rfl (HX5.out.row.alloc _) ⟨w5.heap.size, 0, none⟩ 1 1 (#[.int .u64 0, .int .u64 0, .int .u64 0, .int .u64 0, .int .u64 0, .int .u64 0, .int .u64 0, .int .u64 0, .int .u64 0, .int .u64 0, .int .u64 0, .int .u64 0, .int .u64 0, .int .u64 0, .int .u64 0, .int .u64 0, .int .u64 0, .int .u64 0, .int .u64 0, .int .u64 0, .int .u64 0, .int .u64 0, .int .u64 0, .int .u64 0, .int .u64 0, .int .u64 0, .int .u64 0, .int .u64 0, .int .u64 0, .int .u64 0, .int .u64 0, .int .u64 0, .int .u64 0, .int .u64 0, .int .u64 0, .int .u64 0, .int .u64 0, .int .u64 0, .int .u64 0, .int .u64 0, .int .u64 0, .int .u64 0, .int .u64 0, .int .u64 0, .int .u64 0, .int .u64 0, .int .u64 0, .int .u64 0, .int .u64 0, .int .u64 0, .int .u64 0, .int .u64 0, .int .u64 0, .int .u64 0, .int .u64 0, .int .u64 0, .int .u64 0, .int .u64 0, .int .u64 0, .int .u64 0, .int .u64 0, .int .u64 0, .int .u64 0, .int .u64 0] : Array Value).toList rfl rfl (cell_news w5 (#[.int .u64 0, .int .u64 0, .int .u64 0, .int .u64 0, .int .u64 0, .int .u64 0, .int .u64 0, .int .u64 0, .int .u64 0, .int .u64 0, .int .u64 0, .int .u64 0, .int .u64 0, .int .u64 0, .int .u64 0, .int .u64 0, .int .u64 0, .int .u64 0, .int .u64 0, .int .u64 0, .int .u64 0, .int .u64 0, .int .u64 0, .int .u64 0, .int .u64 0, .int .u64 0, .int .u64 0, .int .u64 0, .int .u64 0, .int .u64 0, .int .u64 0, .int .u64 0, .int .u64 0, .int .u64 0, .int .u64 0, .int .u64 0, .int .u64 0, .int .u64 0, .int .u64 0, .int .u64 0, .int .u64 0, .int .u64 0, .int .u64 0, .int .u64 0, .int .u64 0, .int .u64 0, .int .u64 0, .int .u64 0, .int .u64 0, .int .u64 0, .int .u64 0, .int .u64 0, .int .u64 0, .int .u64 0, .int .u64 0, .int .u64 0, .int .u64 0, .int .u64 0, .int .u64 0, .int .u64 0, .int .u64 0, .int .u64 0, .int .u64 0, .int .u64 0] : Array Value) 91) arr_one (by unfold maxLen; omega) (by omega) (Nat.zero_le _) ?_; intro v6 w6 ho6 hg6 _ hl6; have hM6 := HX5.out.tile hg6 ho6; have c6 : w6.cell? ⟨tb, 0, none⟩ = some (.slice ta C.length tc) := cell_of hM6.1; have f6 : w6.frozen? ⟨tb, 0, none⟩ = false := froz_of hM6.1; obtain ⟨a6, d6, rfl⟩ := own_shape ho6; have HM6 : Hid (UX mb mo tb (C ++ [(X, Y)]) (C.length + 1) (T ++ List.replicate 64 0) (D.put (klE (X, Y)) (.lit (.int .i64 (C.length : Nat)))) (.slice a6 (C.length + 1) d6) (w6.setCell ⟨tb, 0, none⟩ (.slice a6 (C.length + 1) d6))) := hM6.2; have HG6 : Hid ((w5.alloc (.cells (#[.int .u64 0, .int .u64 0, .int .u64 0, .int .u64 0, .int .u64 0, .int .u64 0, .int .u64 0, .int .u64 0, .int .u64 0, .int .u64 0, .int .u64 0, .int .u64 0, .int .u64 0, .int .u64 0, .int .u64 0, .int .u64 0, .int .u64 0, .int .u64 0, .int .u64 0, .int .u64 0, .int .u64 0, .int .u64 0, .int .u64 0, .int .u64 0, .int .u64 0, .int .u64 0, .int .u64 0, .int .u64 0, .int .u64 0, .int .u64 0, .int .u64 0, .int .u64 0, .int .u64 0, .int .u64 0, .int .u64 0, .int .u64 0, .int .u64 0, .int .u64 0, .int .u64 0, .int .u64 0, .int .u64 0, .int .u64 0, .int .u64 0, .int .u64 0, .int .u64 0, .int .u64 0, .int .u64 0, .int .u64 0, .int .u64 0, .int .u64 0, .int .u64 0, .int .u64 0, .int .u64 0, .int .u64 0, .int .u64 0, .int .u64 0, .int .u64 0, .int .u64 0, .int .u64 0, .int .u64 0, .int .u64 0, .int .u64 0, .int .u64 0, .int .u64 0] : Array Value) 91)).grownBy w6 (Value.slice ta C.length tc).ownBlock) := hg6; have HL6 : Hid ((Value.slice a6 (C.length + 1) d6).ownBlock = (Value.slice ta C.length tc).ownBlock ∨ (Value.slice a6 (C.length + 1) d6).ownBlock = some (w5.alloc (.cells (#[.int .u64 0, .int .u64 0, .int .u64 0, .int .u64 0, .int .u64 0, .int .u64 0, .int .u64 0, .int .u64 0, .int .u64 0, .int .u64 0, .int .u64 0, .int .u64 0, .int .u64 0, .int .u64 0, .int .u64 0, .int .u64 0, .int .u64 0, .int .u64 0, .int .u64 0, .int .u64 0, .int .u64 0, .int .u64 0, .int .u64 0, .int .u64 0, .int .u64 0, .int .u64 0, .int .u64 0, .int .u64 0, .int .u64 0, .int .u64 0, .int .u64 0, .int .u64 0, .int .u64 0, .int .u64 0, .int .u64 0, .int .u64 0, .int .u64 0, .int .u64 0, .int .u64 0, .int .u64 0, .int .u64 0, .int .u64 0, .int .u64 0, .int .u64 0, .int .u64 0, .int .u64 0, .int .u64 0, .int .u64 0, .int .u64 0, .int .u64 0, .int .u64 0, .int .u64 0, .int .u64 0, .int .u64 0, .int .u64 0, .int .u64 0, .int .u64 0, .int .u64 0, .int .u64 0, .int .u64 0, .int .u64 0, .int .u64 0, .int .u64 0, .int .u64 0] : Array Value) 91)).heap.size) := hl6; clear hM6 ho6 hg6 hl6))
    have hs5 := HG5.out.size
    rw [World.size_alloc, World.size_alloc] at hs5
    have hs6 := HG6.out.size
    rw [World.size_alloc] at hs6
    have hmol : mo < w.heap.size := HX0.out.mp.lt
    have htbl : tb < w.heap.size := (Array.getElem?_eq_some_iff.1 HX0.out.t).1
    have HRL : Hid (∀ b, (Value.slice ta C.length tc).ownBlock = some b → b < w.heap.size) := fun b hb => (HX0.out.row.lt b hb).2
    obtain ⟨w7, hw7⟩ : ∃ w7, w6.setCell ⟨tb, 0, none⟩ (.slice a6 (C.length + 1) d6) = w7 := ⟨_, rfl⟩
    have hs7 : w7.heap.size = w6.heap.size := by rw [← hw7]; simp [World.setCell]
    have HK7 : Hid (∀ b, b < w1.heap.size → b ≠ mo → b ≠ tb → (Value.slice ta C.length tc).ownBlock ≠ some b → w7.heap[b]? = w1.heap[b]?) := fun b hb h1 h2 h3 => by
      have hb' := hb
      rw [HW1.out, World.size_alloc, World.size_alloc] at hb'
      rw [← hw7, heap_set_other h2, HG6.out.block b (by simp; omega) (fun e => h3 e.symm), (below_new w5 _).block b (by omega), HG5.out.block b (by rw [World.size_alloc, World.size_alloc]; exact hb') (by simp; exact h1), HW1.out]
    have HO7 : Hid (w7.os = w.os ∧ w7.tape = w.tape ∧ w7.output = w.output) := by
      rw [← hw7]
      exact ⟨HG6.out.os.trans HG5.out.os, HG6.out.tape.trans HG5.out.tape, HG6.out.output.trans HG5.out.output⟩
    have HP7 : Hid (∀ o, w7.cell? ⟨w.heap.size, o, none⟩ = (#[.int .u16 (x : Int), .int .u16 (y : Int)] : Array Value)[o]?) := fun o => by
      have hb : w.heap.size < w1.heap.size := HP1.out.lt
      rw [World.cell?_of_block (HK7.out w.heap.size hb (by omega) (by omega) (fun e => by have := HRL.out _ e; omega))]
      exact HP1.out.cell o
    rw [hw7] at HM6 ⊢
    have HS7 : Hid (w.heap.size ≤ w7.heap.size ∧ w5.heap.size + 1 ≤ w7.heap.size ∧ w.heap.size + 2 ≤ w5.heap.size) := ⟨by omega, by omega, by omega⟩
    clear hw7 c6 f6 ct5 ct1 cm hkey hhas HMO d1 d2 f1 f2 HX1'
    obtain ⟨gt, rfl⟩ : ∃ gt, a6 = some ⟨gt, 0, none⟩ := by
      rcases HM6.out.row.2 with ⟨_, h0⟩ | ⟨g', cap', cur, hv, _⟩
      · omega
      · simp only [Value.slice.injEq] at hv
        exact ⟨g', hv.1⟩
    obtain ⟨C2, hC2⟩ : ∃ C2, C ++ [(X, Y)] = C2 := ⟨_, rfl⟩
    obtain ⟨T2, hT2⟩ : ∃ T2, T ++ List.replicate 64 0 = T2 := ⟨_, rfl⟩
    obtain ⟨D2, hD2⟩ : ∃ D2, D.put (klE (X, Y)) (.lit (.int .i64 (C.length : Nat))) = D2 := ⟨_, rfl⟩
    obtain ⟨j, hj⟩ : ∃ j, C.length = j := ⟨_, rfl⟩
    have hlen2 : C.length + 1 = C2.length := by rw [← hC2]; simp
    have HU2 : Hid (UM P C2 T2) := by rw [← hC2, ← hT2]; exact HU.out.tile HMM.out hX64 hY64
    have HJ : Hid (C2[j]? = some (x / 64, y / 64)) := by rw [← hC2, ← hj, HCR.out.1, HCR.out.2]; exact List.getElem?_concat_length
    have HO6 : Hid (∀ b, (Value.slice (some ⟨gt, 0, none⟩) C2.length d6).ownBlock = some b → (Value.slice ta C.length tc).ownBlock = some b ∨ w.heap.size ≤ b) := fun b hb => by
      have hb2 : (Value.slice (some ⟨gt, 0, none⟩) (C.length + 1) d6).ownBlock = some b := hb
      rcases HL6.out with q | q
      · exact .inl (q ▸ hb2)
      · rw [q] at hb2
        simp at hb2
        have := HS7.out
        exact .inr (by omega)
    rw [hC2, hT2, hD2, hlen2] at HM6
    rw [hlen2, hj]
    clear hlen2 hC2 hT2 hD2 HG5 HG6 HL6 hs5 hs6 hs7 HX5 hfew0 hj
    obtain ⟨W, hW⟩ : ∃ W : Nat, 2 ^ k = W := ⟨_, rfl⟩
    have hW64 : W < 18446744073709551616 := by rw [← hW]; exact Nat.pow_lt_pow_right (a := 2) (m := k) (n := 64) (by omega) hk64
    have hWI : (2 : Int) ^ k = (W : Int) := by rw [← hW]; simp
    have hshl : IntKind.u64.wrap ((2 : Int) ^ k) = (W : Int) := by rw [hWI, IntKind.wrap_u64]; omega
    have HW : Hid (2 ^ k = W) := hW
    clear hW hWI
    have S0 : (∀ o, w7.drew.cell? ⟨w.heap.size, o, none⟩ = (#[.int .u16 (x : Int), .int .u16 (y : Int)] : Array Value)[o]?) ∧ Below w7.heap.size w7 w7.drew := ⟨HP7.out, (Below.refl _ _).drew⟩
    go_region_held3 (fun z => (∀ o, z.cell? ⟨w.heap.size, o, none⟩ = (#[.int .u16 (x : Int), .int .u16 (y : Int)] : Array Value)[o]?) ∧ Below w7.heap.size w7 z) (first | exact S0 | assumption) (fail)
    clear S0
    obtain ⟨wk, hwk⟩ : ∃ wk, w7.drew = wk := ⟨_, rfl⟩
    rw [hwk]
    have hbk : Below w7.heap.size w7 wk := by rw [← hwk]; exact (Below.refl _ _).drew
    have HBK : Hid (Below w7.heap.size w7 wk) := hbk
    have HX : Hid (UX mb mo tb C2 C2.length T2 D2 (.slice (some ⟨gt, 0, none⟩) C2.length d6) wk) := HM6.out.below hbk
    clear hwk hbk HM6
    have hjl : j < C2.length := (List.getElem?_eq_some_iff.1 HJ.out).1
    have hjI : (j : Int) < C2.length := by omega
    have hlI : (l : Int) < 64 := by omega
    have hfew := HU2.out.few
    have hll : j * 64 + l < T2.length := by rw [HU2.out.len]; omega
    have ht0 : wk.cell? ⟨tb, 0, none⟩ = some (.slice (some ⟨gt, 0, none⟩) C2.length d6) := cell_of HX.out.t
    have hcz : wk.cell? ⟨gt, j * 64 + l, none⟩ = some (.int .u64 (T2.getD (j * 64 + l) 0 : Nat)) := (HX.out.row.cellAt (j * 64 + l) (by rw [← HU2.out.len]; exact hll)).trans (q64_get hll)
    have hfr : wk.frozen? ⟨gt, j * 64 + l, none⟩ = false := HX.out.row.frozenAt (j * 64 + l)
    have hbt := HU2.out.lt (j * 64 + l)
    have hor := or_u64' (T2.getD (j * 64 + l) 0) W hbt hW64
    have han := and_u64' (T2.getD (j * 64 + l) 0) W hbt hW64
    have hbit := HU2.out.bit hx hy HJ.out
    rw [HLK.out.1, HLK.out.2, HW.out] at hbit
    obtain ⟨P', hP'⟩ : ∃ P', (if decide ((x, y) ∉ P) then P ++ [(x, y)] else P) = P' := ⟨_, rfl⟩
    have hUM' := HU2.out.mark hx hy HJ.out P' (fun q => by rw [← hP']; exact mem_upd q)
    rw [HLK.out.1, HLK.out.2, HW.out] at hUM'
    have hX' := HX.out.mark (j * 64 + l) (T2.getD (j * 64 + l) 0 ||| W)
    obtain ⟨b0, hb0⟩ : ∃ b0, T2.getD (j * 64 + l) 0 = b0 := ⟨_, rfl⟩
    rw [hb0] at hcz hor han hbit hUM' hX'
    obtain ⟨Z, hZ⟩ : ∃ Z : Nat, b0 ||| W = Z := ⟨_, rfl⟩
    obtain ⟨N, hN⟩ : ∃ N : Nat, b0 &&& W = N := ⟨_, rfl⟩
    rw [hZ] at hor hUM' hX'
    rw [hN] at han hbit
    have HFIN : Hid (FU mb mo tb P' (fun b => b = mb ∨ b = mo ∨ b = tb ∨ (Value.slice (some ⟨gt, 0, none⟩) C2.length d6).ownBlock = some b) (wk.setCell ⟨gt, j * 64 + l, none⟩ (.int .u64 (Z : Int)))) := ⟨C2, _, D2, _, hUM', hX', rfl⟩
    have HPE : Hid ((if decide ((x, y) ∉ P) then P ++ [(x, y)] else P) = P') := hP'
    have HDC : Hid (decide ((x, y) ∉ P) = decide (N = 0)) := by
      show _ = _
      by_cases q : N = 0
      · rw [decide_eq_true q, decide_eq_true (hbit.1 q)]
      · rw [decide_eq_false q, decide_eq_false (fun z => q (hbit.2 z))]
    clear hP' hUM' hX' hb0 hZ hN hbit hbt hll
    by_cases hN0 : N = 0
    · subst hN0
      go_wp2_with fail
      go_ret
      refine ⟨?_, (fun b => b = mb ∨ b = mo ∨ b = tb ∨ (Value.slice (some ⟨gt, 0, none⟩) C2.length d6).ownBlock = some b), ?_, ⟨?_, ?_, ?_, ?_, fun b hb hO => ?_, fun b hb => ?_⟩⟩
      · rw [HDC.out]; rfl
      · rw [HPE.out]; exact HFIN.out
      · exact HBK.out.os.trans HO7.out.1
      · exact HBK.out.tape.trans HO7.out.2.1
      · exact HBK.out.output.trans HO7.out.2.2
      · have h1 := HBK.out.size; have h2 := HS7.out.1; simp [World.setCell]; omega
      · have hne : b ≠ gt := fun e => by
          rcases HO6.out gt rfl with q | q
          · exact hO (.inr (.inr (.inr (by rw [e]; exact q))))
          · omega
        rw [heap_set_other hne, HBK.out.block b (by have := HS7.out.1; omega), HK7.out b (Nat.lt_of_lt_of_le hb HB1.out.size) (fun e => hO (.inr (.inl e))) (fun e => hO (.inr (.inr (.inl e)))) (fun e => hO (.inr (.inr (.inr e))))]
        exact HB1.out.block b hb
      · rcases hb with q | q | q | q
        · exact .inl (.inl q)
        · exact .inl (.inr (.inl q))
        · exact .inl (.inr (.inr (.inl q)))
        · rcases HO6.out b q with z | z
          · exact .inl (.inr (.inr (.inr z)))
          · exact .inr z
    · have hNI : ¬ (N : Int) = 0 := by omega
      have hNd : decide ((N : Int) = 0) = false := decide_eq_false hNI
      have hNb : ((N : Int) == 0) = false := by simpa using hNI
      go_wp2_with fail
      go_ret
      refine ⟨?_, (fun b => b = mb ∨ b = mo ∨ b = tb ∨ (Value.slice (some ⟨gt, 0, none⟩) C2.length d6).ownBlock = some b), ?_, ⟨?_, ?_, ?_, ?_, fun b hb hO => ?_, fun b hb => ?_⟩⟩
      · rw [HDC.out]; rw [decide_eq_false hN0]; rfl
      · rw [HPE.out]; exact HFIN.out
      · exact HBK.out.os.trans HO7.out.1
      · exact HBK.out.tape.trans HO7.out.2.1
      · exact HBK.out.output.trans HO7.out.2.2
      · have h1 := HBK.out.size; have h2 := HS7.out.1; simp [World.setCell]; omega
      · have hne : b ≠ gt := fun e => by
          rcases HO6.out gt rfl with q | q
          · exact hO (.inr (.inr (.inr (by rw [e]; exact q))))
          · omega
        rw [heap_set_other hne, HBK.out.block b (by have := HS7.out.1; omega), HK7.out b (Nat.lt_of_lt_of_le hb HB1.out.size) (fun e => hO (.inr (.inl e))) (fun e => hO (.inr (.inr (.inl e)))) (fun e => hO (.inr (.inr (.inr e))))]
        exact HB1.out.block b hb
      · rcases hb with q | q | q | q
        · exact .inl (.inl q)
        · exact .inl (.inr (.inl q))
        · exact .inl (.inr (.inr (.inl q)))
        · rcases HO6.out b q with z | z
          · exact .inl (.inr (.inr (.inr z)))
          · exact .inr z
end Go.Proofs.Ytceoceecgekkjaa
