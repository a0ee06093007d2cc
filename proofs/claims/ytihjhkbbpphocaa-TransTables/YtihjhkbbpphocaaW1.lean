/- Cta Ctb Ctc Ctd Cu, in one text. -/
import Derived.Test.YtihjhkbbpphocaaCj
import Derived.Test.YtihjhkbbpphocaaAn
import Derived.Test.YtihjhkbbpphocaaAw
import Derived.Test.YtihjhkbbpphocaaJi
import Derived.DeepKeys4
import Derived.Test.YtihjhkbbpphocaaE1
import Derived.Deep.AppendLies
import Derived.Deep.RegionLaw
import Derived.Deep.DeepCutAuto
import Derived.Test.YtihjhkbbpphocaaCb
import Derived.Test.YtihjhkbbpphocaaCe
namespace Go.Proofs.Ytihjhkbbpphocaa
open Go Go.RowKit Go.Lib Go.Maps
set_option linter.unusedVariables false

/-- What At answers of a transformation. -/
def atV (l : List Nat) (i : Int) : Value := if 0 ≤ i ∧ i < l.length then .tuple #[.int .i64 ((im l i.toNat : Nat) : Int), .int .i64 0] else .tuple #[.int .i64 0, .int .i64 3]
set_option maxHeartbeats 2000000 in
set_option maxRecDepth 100000 in
theorem tat_ok (l : List Nat) (hl : Tf l) (i : Int) (w : World) :
    Calls Try.prog 16 #[.agg (tC l), .int .i64 i] w fun e w' => e = .returned (atV l i) ∧ Below w.heap.size w w' := by
  have H1 : Hid (TL (w.alloc (.cells (tC l) 26)) w.heap.size l) := heap_last _ _
  have HB0 : Hid (Below w.heap.size w (w.alloc (.cells (tC l) 26))) := (Below.refl _ _).alloc (Nat.le_refl _) _
  have hz := Try.zero_mv
  have hne := mvC_ne 0 fun _ => 0
  have hsz := mvC_size 0 fun _ => 0
  have hle := hl.le
  have hlt := hl.lt64
  unfold atV
  by_cases h0 : 0 ≤ i
  · by_cases h1 : i < l.length
    · obtain ⟨k, rfl⟩ : ∃ k : Nat, i = k := ⟨i.toNat, by omega⟩
      rw [if_pos ⟨h0, h1⟩, Int.toNat_natCast]
      have hk64 : (k : Int) < 64 := by omega
      have hd64 := hlt k (by omega)
      have hwd : IntKind.i64.wrap ((im l k : Nat) : Int) = ((im l k : Nat) : Int) := IntWalk.i64_in _ (by omega)
      go_enter Try.func16, Try.ntmps16
      go_wp2_with (refine wl_load rfl rfl (H1.out) rfl ?_)
      refine (open_ok l hl _).mono ?_
      rintro e w1 ⟨rfl, hB1⟩
      have HB1 : Hid (Below w.heap.size w w1) := HB0.out.trans (hB1.mono (by simp))
      clear hB1
      have hst := st_mvNew2 w1 l.length (im l)
      have hszl := mvC_size l.length (im l)
      have hmn := mvC_n' l.length (im l)
      have hc1 := (mv_last w1 l.length (im l)).cell' (i := k) (by omega)
      go_wp2_with fail
      go_ret2
      exact ⟨rfl, HB1.out.alloc HB1.out.size _⟩
    · rw [if_neg (fun h => h1 h.2)]
      go_enter Try.func16, Try.ntmps16
      go_wp2_with (refine wl_load rfl rfl (H1.out) rfl ?_)
      refine (open_ok l hl _).mono ?_
      rintro e w1 ⟨rfl, hB1⟩
      have HB1 : Hid (Below w.heap.size w w1) := HB0.out.trans (hB1.mono (by simp))
      clear hB1
      have hst := st_mvNew2 w1 l.length (im l)
      have hszl := mvC_size l.length (im l)
      have hmn := mvC_n' l.length (im l)
      go_wp2_with fail
      go_ret2
      exact ⟨rfl, HB1.out.alloc HB1.out.size _⟩
  · rw [if_neg (fun h => h0 h.1)]
    go_enter Try.func16, Try.ntmps16
    go_wp2_with (refine wl_load rfl rfl (H1.out) rfl ?_)
    refine (open_ok l hl _).mono ?_
    rintro e w1 ⟨rfl, hB1⟩
    have HB1 : Hid (Below w.heap.size w w1) := HB0.out.trans (hB1.mono (by simp))
    clear hB1
    have hst := st_mvNew2 w1 l.length (im l)
    have hszl := mvC_size l.length (im l)
    have hmn := mvC_n' l.length (im l)
    go_wp2_with fail
    go_ret2
    exact ⟨rfl, HB1.out.alloc HB1.out.size _⟩

set_option maxHeartbeats 2000000 in
set_option maxRecDepth 100000 in
theorem tcheck_ok (l : List Nat) (hl : Tf l) (w : World) :
    Calls Try.prog 11 #[.agg (tC l)] w fun e w' => e = .returned (.int .i64 0) ∧ Below w.heap.size w w' := by
  have H1 : Hid (TL (w.alloc (.cells (tC l) 26)) w.heap.size l) := heap_last _ _
  have HB0 : Hid (Below w.heap.size w (w.alloc (.cells (tC l) 26))) := (Below.refl _ _).alloc (Nat.le_refl _) _
  have hz := Try.zero_mv
  have hne := mvC_ne 0 fun _ => 0
  have hsz := mvC_size 0 fun _ => 0
  go_enter Try.func11, Try.ntmps11
  go_wp2_with (refine wl_load rfl rfl (H1.out) rfl ?_)
  refine (open_ok l hl _).mono ?_
  rintro e w1 ⟨rfl, hB1⟩
  have HB1 : Hid (Below w.heap.size w w1) := HB0.out.trans (hB1.mono (by simp))
  clear hB1
  have hst := st_mvNew2 w1 l.length (im l)
  have hszl := mvC_size l.length (im l)
  go_wp2_with fail
  go_ret
  exact ⟨rfl, HB1.out.alloc HB1.out.size _⟩

/-- A transformation's key. -/
def klG (N : Int) (g : Nat → Nat) : Lit := .string (keyBytes [.int .i64 N, .int .u64 (g 0 : Nat), .int .u64 (g 1 : Nat), .int .u64 (g 2 : Nat), .int .u64 (g 3 : Nat), .int .u64 (g 4 : Nat), .int .u64 (g 5 : Nat), .int .u64 (g 6 : Nat)])
theorem keyOf_tr {P : Program} {k t e i : TypeId} {f1 f2 : Field} (hk : P.underlying k = some (.struct #[f1, f2])) (n1 : f1.name ≠ "_") (n2 : f2.name ≠ "_") (o1 : f1.offset = 0) (o2 : f2.offset = 1) (t1 : f1.type = i) (t2 : f2.type = t)
    (ht : P.underlying t = some (.array 7 e)) (he : P.underlying e = some (.int .u64)) (hi : P.underlying i = some (.int .i64)) (ck : P.cellsOf k = 8) (ct : P.cellsOf t = 7) (ce : P.cellsOf e = 1) (ci : P.cellsOf i = 1) (hy : P.keyType k = true) {n : Nat} (hn : P.types.size = n + 2) {N : Int} {g : Nat → Nat} (hN : (Lit.int .i64 N).wf = true) (hg : ∀ j, j < 7 → (Lit.int .u64 (g j : Nat)).wf = true) :
    keyOf P k (.agg (trC N g)) = some (klG N g) := by
  have w0 := hg 0 (by decide)
  have w1 := hg 1 (by decide)
  have w2 := hg 2 (by decide)
  have w3 := hg 3 (by decide)
  have w4 := hg 4 (by decide)
  have w5 := hg 5 (by decide)
  have w6 := hg 6 (by decide)
  simp [keyOf, hk, hy, Value.formed, Value.cells, ck, hn, Program.keyLits, n1, n2, o1, o2, t1, t2, ct, ce, ci, ht, he, hi, hN, w0, w1, w2, w3, w4, w5, w6, klG, trC, List.range_succ, List.range_zero]
theorem Try.und_mapT : Try.prog.underlying 99 = some (.map 26 3) := by kernel_rfl
theorem Try.laidT : laidOutB Try.prog = true := by kernel_rfl
theorem Try.keyT_tr : Try.prog.keyType 26 = true := by kernel_rfl
theorem Try.size_trK : Try.prog.cellsOf 26 = 8 := by kernel_rfl
theorem Try.size_a7 : Try.prog.cellsOf 24 = 7 := by kernel_rfl
theorem Try.size_u64K : Try.prog.cellsOf 23 = 1 := by kernel_rfl
theorem Try.size_intK : Try.prog.cellsOf 3 = 1 := by kernel_rfl
theorem Try.und_u64K : Try.prog.underlying 23 = some (.int .u64) := by kernel_rfl
theorem Try.und_a7 : Try.prog.underlying 24 = some (.array 7 23) := by kernel_rfl
theorem Try.tsizeT : ∃ n, Try.prog.types.size = n + 2 := ⟨Try.prog.types.size - 2, by have : 1 < Try.prog.types.size := of_decide_eq_true (by kernel_rfl); omega⟩
theorem keyT : Keyed Try.prog 26 := Keyed.of_law (deep_law_laid Try.laidT (m := 3) (by omega) (of_decide_eq_true (by kernel_rfl)) (by kernel_rfl) (by rw [Try.underlying26]))
def klT (l : List Nat) : Lit := klG l.length (pk (im l) l.length)
theorem klT_of {l : List Nat} (hl : Tf l) : keyOf Try.prog 26 (.agg (tC l)) = some (klT l) := by
  obtain ⟨n, hn⟩ := Try.tsizeT
  have := hl.le
  exact keyOf_tr Try.underlying26 (by decide) (by decide) rfl rfl rfl rfl Try.und_a7 Try.und_u64K Try.und_int Try.size_trK Try.size_a7 Try.size_u64K Try.size_intK Try.keyT_tr hn (WalkArith.wf_i64 (by omega)) (fun j hj => WalkArith.wf_u64 (by have := pk_w64 hl j hj; omega))
theorem klT_inj {l m : List Nat} (hl : Tf l) (hm : Tf m) (h : klT l = klT m) : l = m := by
  have := keyT.inj (klT_of hl) (h ▸ klT_of hm)
  simp only [Value.agg.injEq] at this
  obtain ⟨a, b⟩ := trC_inj this
  exact pk_inj hl hm (by omega) b
theorem klT_key (l : List Nat) : WideAt.IsKeyLit (klT l) := trivial
end Go.Proofs.Ytihjhkbbpphocaa

namespace Go.Proofs.Ytihjhkbbpphocaa
open Go Go.RowKit Go.Lib Go.Maps
set_option linter.unusedVariables false

/-- All blocks but those of S stay. -/
structure Only (S : Nat → Prop) (w w' : World) : Prop where
  zero : Below 0 w w'
  block : ∀ j, j < w.heap.size → ¬ S j → w'.heap[j]? = w.heap[j]?
theorem Only.of {S : Nat → Prop} {w w' : World} (h : Below w.heap.size w w') : Only S w w' := ⟨h.mono (Nat.zero_le _), fun j hj _ => h.block j hj⟩
theorem Only.trans {S : Nat → Prop} {a b c : World} (h : Only S a b) (g : Only S b c) : Only S a c :=
  ⟨h.zero.trans g.zero, fun j hj hs => (g.block j (Nat.lt_of_lt_of_le hj h.zero.size) hs).trans (h.block j hj hs)⟩
theorem Only.size {S : Nat → Prop} {w w' : World} (h : Only S w w') : w.heap.size ≤ w'.heap.size := h.zero.size
theorem Only.below {S : Nat → Prop} {B : Nat} {w0 w w' : World} (h : Only S w w') (hb : Below B w0 w) (hB : B ≤ w0.heap.size) (hS : ∀ j, S j → B ≤ j) : Below B w0 w' :=
  ⟨h.zero.os.trans hb.os, h.zero.tape.trans hb.tape, h.zero.output.trans hb.output, Nat.le_trans hb.size h.size, fun j hj => (h.block j (by have := hb.size; omega) (fun q => by have := hS j q; omega)).trans (hb.block j hj)⟩
theorem Only.mono {S T : Nat → Prop} {w w' : World} (h : Only S w w') (hS : ∀ j, j < w.heap.size → S j → T j) : Only T w w' := ⟨h.zero, fun j hj ht => h.block j hj (fun q => ht (hS j hj q))⟩
theorem Only.grown {S : Nat → Prop} {w w' : World} {r : Option Nat} (h : w.grownBy w' r) (hS : ∀ j, r = some j → S j) : Only S w w' :=
  ⟨(Below.refl 0 w).grown h (by omega) (fun b hb => Nat.zero_le _), fun j hj hs => h.block j hj (fun e => hs (hS j e.symm))⟩
theorem Only.set {S : Nat → Prop} {w w' : World} (h : Only S w w') {b o : Nat} {v : Value} (hb : S b) : Only S w (w'.setCell ⟨b, o, none⟩ v) :=
  ⟨h.zero.setCell (p := ⟨b, o, none⟩) (Nat.zero_le _) v, fun j hj hs => (heap_set_other (fun e => hs (by rw [e]; exact hb))).trans (h.block j hj hs)⟩
theorem own_only {S : Nat → Prop} {w w' : World} {base : Nat} {e : TypeId} {size n : Nat} {v : Value} {xs : List Value} (h : w.ownsRow base e size v n xs) (g : Only S w w') (hs : ∀ b, v.ownBlock = some b → ¬ S b) : w'.ownsRow base e size v n xs :=
  own_keep h (fun b cur hb hc => g.block b (Array.getElem?_eq_some_iff.1 hc).1 (hs b hb))

/-- A list of transformations, cell by cell. -/
def tCs (M : List (List Nat)) : List Value := M.flatMap fun l => (tC l).toList
theorem tC_len (l : List Nat) : (tC l).toList.length = 8 := rfl
theorem tCs_len : ∀ M : List (List Nat), (tCs M).length = M.length * 8
  | [] => rfl
  | a :: M => by
    have := tCs_len M
    unfold tCs at this ⊢
    rw [List.flatMap_cons, List.length_append, this, tC_len, List.length_cons]
    omega
theorem tCs_at : ∀ (M : List (List Nat)) (i : Nat) (l : List Nat), M[i]? = some l → ∀ j, j < 8 → (tCs M)[i * 8 + j]? = (tC l).toList[j]?
  | [], i, l, h, j, hj => by simp at h
  | a :: M, 0, l, h, j, hj => by
    simp at h
    subst h
    unfold tCs
    rw [List.flatMap_cons, List.getElem?_append_left (by rw [tC_len]; omega)]
    congr 1
    omega
  | a :: M, i + 1, l, h, j, hj => by
    have := tCs_at M i l (by simpa using h) j hj
    unfold tCs at this ⊢
    rw [List.flatMap_cons, List.getElem?_append_right (by rw [tC_len]; omega), tC_len, ← this]
    congr 1
    omega
theorem tCs_snoc (M : List (List Nat)) (l : List Nat) : tCs (M ++ [l]) = tCs M ++ (tC l).toList := by simp [tCs]

/-- A table that lies in memory: its block, its map's, its list. -/
structure TB (base : Nat) (w : World) (b mb n : Nat) (vl : Value) (M : List (List Nat)) (D : DataW Unit) : Prop where
  box : w.heap[b]? = some (.cells #[.pointer (some ⟨b, 0, none⟩), .int .i64 n, .map (some mb), vl] 102 (0, 0))
  mp : w.ownsMap Try.prog 26 (plainElem Try.prog 3) mb M.length D
  mi : MI klT Tf D M
  row : w.ownsRow base 26 8 vl M.length (tCs M)
  lob : base ≤ b
  lom : base ≤ mb
  all : ∀ l ∈ M, Tf l ∧ l.length = n
  most : M.length ≤ 512
/-- The table's blocks. -/
def TS (b mb : Nat) (vl : Value) (j : Nat) : Prop := j = b ∨ j = mb ∨ vl.ownBlock = some j
theorem TB.keep {base : Nat} {w w' : World} {b mb n : Nat} {vl : Value} {M : List (List Nat)} {D : DataW Unit} (h : TB base w b mb n vl M D) (hk : ∀ j, TS b mb vl j → j < w.heap.size → w'.heap[j]? = w.heap[j]?) : TB base w' b mb n vl M D :=
  ⟨(hk b (.inl rfl) (Array.getElem?_eq_some_iff.1 h.box).1).trans h.box, map_keep h.mp (hk mb (.inr (.inl rfl)) h.mp.lt), h.mi, own_keep h.row (fun j cur hj hc => hk j (.inr (.inr hj)) (Array.getElem?_eq_some_iff.1 hc).1), h.lob, h.lom, h.all, h.most⟩
theorem TB.below {base : Nat} {w w' : World} {b mb n : Nat} {vl : Value} {M : List (List Nat)} {D : DataW Unit} (h : TB base w b mb n vl M D) (hb : Below w.heap.size w w') : TB base w' b mb n vl M D := h.keep (fun j _ hj => hb.block j hj)
theorem TB.only {base : Nat} {w w' : World} {b mb n : Nat} {vl : Value} {M : List (List Nat)} {D : DataW Unit} {S : Nat → Prop} (h : TB base w b mb n vl M D) (hb : Only S w w') (hs : ∀ j, TS b mb vl j → ¬ S j) : TB base w' b mb n vl M D := h.keep (fun j hj hl => hb.block j hl (hs j hj))
theorem TB.ts {base : Nat} {w : World} {b mb n : Nat} {vl : Value} {M : List (List Nat)} {D : DataW Unit} (h : TB base w b mb n vl M D) {j : Nat} (hj : TS b mb vl j) : base ≤ j ∧ j < w.heap.size := by
  rcases hj with rfl | rfl | hj
  · exact ⟨h.lob, (Array.getElem?_eq_some_iff.1 h.box).1⟩
  · exact ⟨h.lom, h.mp.lt⟩
  · exact h.row.lt j hj
theorem cell_at {w : World} {b j : Nat} {arr : Array Value} {t : TypeId} {f : Nat × Nat} {v : Value} (h : w.heap[b]? = some (.cells arr t f)) (hv : arr[j]? = some v) : w.cell? ⟨b, j, none⟩ = some v := by rw [cell_of_row _ _ _ _ _ _ h]; exact hv

theorem eq_ptr (a : Addr) (w : World) : (binOp .eql 65 (.pointer (some a)) (.pointer (some a))).run Try.prog w = .ok (.bool true) w := by
  simp only [binOp]
  simp only [Op.equal, Op.maxDepth]
  rw [show (10000 : Nat) = 9999 + 1 from rfl, Op.equalIn]
  simp [Sem.run_bind, run_underlying Try.underlying65, sameAddr]

set_option maxHeartbeats 1000000 in
set_option maxRecDepth 100000 in
theorem tmade_any {base : Nat} {w : World} {b mb n : Nat} {vl : Value} {M : List (List Nat)} {D : DataW Unit} (h : TB base w b mb n vl M D) : Calls Try.prog 58 #[.pointer (some ⟨b, 0, none⟩)] w fun e w' => e = .returned (.bool true) ∧ w = w' := by
  have h0 : w.cell? ⟨b, 0, none⟩ = some (.pointer (some ⟨b, 0, none⟩)) := cell_at h.box rfl
  have he := eq_ptr ⟨b, 0, none⟩ w
  clear h
  go_enter Try.func58, Try.ntmps58
  go_wp2_with fail
  go_ret
  exact ⟨rfl, rfl⟩

set_option maxHeartbeats 1000000 in
set_option maxRecDepth 100000 in
theorem tlen_any {base : Nat} {w : World} {b mb n : Nat} {vl : Value} {M : List (List Nat)} {D : DataW Unit} (h : TB base w b mb n vl M D) : Calls Try.prog 33 #[.pointer (some ⟨b, 0, none⟩)] w fun e w' => e = .returned (.int .i64 (M.length : Nat)) ∧ w = w' := by
  obtain ⟨a, cap, rfl⟩ := own_shape h.row
  have h3 : w.cell? ⟨b, 3, none⟩ = some (.slice a M.length cap) := cell_at h.box rfl
  have H : Hid (TB base w b mb n (.slice a M.length cap) M D) := h
  clear h
  go_enter Try.func33, Try.ntmps33
  go_wp2_with fail
  refine (tmade_any H.out).mono ?_
  rintro e w1 ⟨rfl, rfl⟩
  go_wp2_with fail
  go_ret
  exact ⟨rfl, rfl⟩

set_option maxHeartbeats 1000000 in
set_option maxRecDepth 100000 in
theorem tnew_any (n : Nat) (h1 : 1 ≤ n) (h2 : n ≤ 64) (w : World) : Calls Try.prog 30 #[.int .i64 n] w fun e w' => e = .returned (.tuple #[.pointer (some ⟨w.heap.size + 1, 0, none⟩), .int .i64 0]) ∧ Below w.heap.size w w' ∧ TB w.heap.size w' (w.heap.size + 1) w.heap.size n (.slice none 0 0) [] (.map []) := by
  have hs : Hid (Calls Try.prog 35 #[.int .i64 n] w fun e w' => e = .returned (.bool true) ∧ w = w') := by
    refine (isSize_any n w).mono ?_
    rintro e w1 ⟨rfl, rfl⟩
    exact ⟨by rw [decide_eq_true (by omega)], rfl⟩
  have hmm := @run_makeMap Try.prog
  have HT : Hid (TB w.heap.size ((w.alloc (.map #[] 0)).alloc (.cells #[.pointer (some ⟨w.heap.size + 1, 0, none⟩), .int .i64 n, .map (some w.heap.size), .slice none 0 0] 102)) (w.heap.size + 1) w.heap.size n (.slice none 0 0) [] (.map [])) := by
    have e : (w.alloc (.map #[] 0)).heap.size = w.heap.size + 1 := by simp
    refine ⟨?_, ?_, MI.empty _ _, World.ownsRow_nil _ _ _ _, by omega, Nat.le_refl _, fun l hl => by simp at hl, by simp⟩
    · rw [← e]
      exact heap_last _ _
    · exact (World.ownsMap_made w _ _ _).alloc _
  have HB : Hid (Below w.heap.size w ((w.alloc (.map #[] 0)).alloc (.cells #[.pointer (some ⟨w.heap.size + 1, 0, none⟩), .int .i64 n, .map (some w.heap.size), .slice none 0 0] 102))) := go_on (below_new _ _) (below_new _ _)
  go_enter Try.func30, Try.ntmps30
  go_wp2_with fail
  refine hs.out.mono ?_
  rintro e w1 ⟨rfl, rfl⟩
  go_wp2_with fail
  go_ret2
  exact ⟨rfl, HB.out, HT.out⟩

theorem Try.info_trL : (Try.prog.info? 26).map (fun i => (i.zero, i.size, i.bytes)) = some (some (.agg (trC 0 fun _ => 0)), 8, 64) := by kernel_rfl
/-- A transformation of a list, as it lies among the others. -/
theorem TB.cells {base : Nat} {w : World} {b mb n : Nat} {a : Option Addr} {c : Nat} {M : List (List Nat)} {D : DataW Unit} (h : TB base w b mb n (.slice a M.length c) M D) {i : Nat} {l : List Nat} (hi : M[i]? = some l) : ∃ g, a = some ⟨g, 0, none⟩ ∧ g < w.heap.size ∧ ∀ j, j < 8 → w.cell? ⟨g, i * 8 + j, none⟩ = (tC l)[j]? := by
  have hil := (List.getElem?_eq_some_iff.1 hi).1
  have hr := h.row
  rcases h.row.2 with ⟨h1, h0⟩ | ⟨g, cap, cur, h1, r⟩
  · omega
  · simp only [Value.slice.injEq] at h1
    obtain ⟨rfl, _, rfl⟩ := h1
    refine ⟨g, rfl, (Array.getElem?_eq_some_iff.1 r.2.1).1, fun j hj => ?_⟩
    rw [hr.cellAt (i * 8 + j) (by omega), tCs_at M i l hi j hj]
    simp
theorem lv_row {w : World} {g o : Nat} {l : List Nat} (h : ∀ j, j < 8 → w.cell? ⟨g, o + j, none⟩ = (tC l)[j]?) : (loadVar 26 ⟨g, o, none⟩).run Try.prog w = .ok (.agg (tC l)) w := by
  have hl := run_loadCells_list (P := Try.prog) w ⟨g, o, none⟩ (tC l).toList (fun j v hv => by
    have hadd : (⟨g, o, none⟩ : Addr).add j = ⟨g, o + j, none⟩ := by unfold Addr.add; split <;> simp_all
    have hj : j < 8 := by
      have := (List.getElem?_eq_some_iff.1 hv).1
      rwa [tC_len] at this
    rw [hadd, h j hj]
    simpa using hv)
  have hagg := agg_of (b := true) Try.underlying26 rfl w
  rw [tC_len] at hl
  simp [loadVar, Sem.run_bind, hagg, hl]
section
variable {ops : Array Oper} {rest : List Oper} {o : Oper} {a : Act} {w : World} {Q : Exit → Act → World → Prop}
theorem ex_load_at {ev : Operand → Value} {o : Oper} {ty : TypeId} {x : Operand} {ad : Addr} {w : World} {cs : Array Value} (ho : o.op = .load ty x) (hx : ev x = .pointer (some ad)) (hl : (loadVar ty ad).run Try.prog w = .ok (.agg cs) w) :
    (execOp ev o).run Try.prog w = .ok (.value (.agg cs)) w := by
  unfold execOp
  simp only [ho, hx, Instr.loadAt, Instr.sureAddr, Sem.run_bind, Sem.run_pure, Result.andThen_ok, hl]
theorem wa_load {x : Operand} {g p : Nat} {l : List Nat} (ho : o.op = .load 26 x) (hx : a.eval x = .pointer (some ⟨g, p, none⟩)) (hg : ∀ j, j < 8 → w.cell? ⟨g, p + j, none⟩ = (tC l)[j]?) (hw : Region.wanted o (yielded ops a.tmps) = true) (h : wpList Try.prog ops Q rest (a.put o.dst (.agg (tC l))) w) : wpList Try.prog ops Q (o :: rest) a w :=
  wl_yield (ex_load_at ho hx (lv_row hg)) hw h
end

set_option maxHeartbeats 2000000 in
set_option maxRecDepth 100000 in
theorem ttat_any {base : Nat} {w : World} {b mb n : Nat} {vl : Value} {M : List (List Nat)} {D : DataW Unit} (h : TB base w b mb n vl M D) {i : Nat} {l : List Nat} (hi : M[i]? = some l) : Calls Try.prog 56 #[.pointer (some ⟨b, 0, none⟩), .int .i64 i] w fun e w' => e = .returned (.tuple #[.agg (tC l), .bool true]) ∧ Below w.heap.size w w' := by
  have hil := (List.getElem?_eq_some_iff.1 hi).1
  obtain ⟨a, cap, rfl⟩ := own_shape h.row
  obtain ⟨g, rfl, hg, hc⟩ := h.cells hi
  obtain ⟨w0, hw0⟩ : ∃ w0, w0 = w.alloc (.cells (trC 0 (fun _ => 0)) 26) := ⟨_, rfl⟩
  have hb0 : Below w.heap.size w w0 := by rw [hw0]; exact below_new _ _
  have HT : Hid (TB base w0 b mb n (.slice (some ⟨g, 0, none⟩) M.length cap) M D) := h.below hb0
  have h3 : w0.cell? ⟨b, 3, none⟩ = some (.slice (some ⟨g, 0, none⟩) M.length cap) := cell_at HT.out.box rfl
  have HC : Hid (∀ j, j < 8 → w0.cell? ⟨g, i * 8 + j, none⟩ = (tC l)[j]?) := fun j hj => by rw [below_cellJ hb0 hg]; exact hc j hj
  have HW : Hid (w0 = w.alloc (.cells (trC 0 (fun _ => 0)) 26)) := hw0
  have HR : Hid (TrAt w0 w.heap.size 0 (fun _ => 0)) := by show TrAt _ _ _ _; rw [hw0]; exact heap_last _ _
  have HB : Hid (Below w.heap.size w w0) := hb0
  have hiI : ¬ (M.length : Int) ≤ i := by omega
  have hmo : M.length ≤ 512 := h.most
  clear h hi hc hw0 hb0
  go_enter Try.func56, Try.ntmps56
  go_wp2_with fail
  rw [show (#[Value.int .i64 0, .int .u64 0, .int .u64 0, .int .u64 0, .int .u64 0, .int .u64 0, .int .u64 0, .int .u64 0] : Array Value) = trC 0 (fun _ => 0) from rfl, ← HW.out]
  refine (tmade_any HT.out).mono ?_
  rintro e w1 ⟨rfl, rfl⟩
  have hst : (storeCells ⟨w.heap.size, 0, none⟩ (tC l).toList 0).run Try.prog w0 = .ok () (w0.setRow w.heap.size (tC l)) := st_tr HR.out
  go_wp2_with (refine wa_load rfl rfl HC.out rfl ?_)
  exact bodyPost_ret (results_tr_tmp rfl rfl (TrAt.row HR.out)) rfl ⟨rfl, below_row HB.out (Nat.le_refl _)⟩

/-- A new transformation in the table. -/
theorem TB.new {base : Nat} {w w5 w7 : World} {b mb n : Nat} {vl vl' : Value} {M : List (List Nat)} {D : DataW Unit} {l : List Nat} {o : Obj} (h : TB base w b mb n vl M D) (hl : Tf l) (hn : l.length = n) (hm : l ∉ M) (hs : M.length < 512)
    (hmo : w5.ownsMap Try.prog 26 (plainElem Try.prog 3) mb (M.length + 1) (D.put (klT l) (.lit (.int .i64 (M.length : Nat))))) (hmg : w.grownBy w5 (some mb))
    (ho : w7.ownsRow base 26 8 vl' (M.length + 1) (tCs M ++ (tC l).toList)) (hg : (w5.alloc o).grownBy w7 vl.ownBlock) :
    w7.heap[b]? = some (.cells #[.pointer (some ⟨b, 0, none⟩), .int .i64 n, .map (some mb), vl] 102 (0, 0)) ∧
    TB base (w7.setCell ⟨b, 3, none⟩ vl') b mb n vl' (M ++ [l]) (D.put (klT l) (.lit (.int .i64 (M.length : Nat)))) ∧ Only (TS b mb vl) w (w7.setCell ⟨b, 3, none⟩ vl') := by
  obtain ⟨es, clock, hmb⟩ := map_blk h.mp
  obtain ⟨es5, clock5, hmb5⟩ := map_blk hmo
  have hbl := (Array.getElem?_eq_some_iff.1 h.box).1
  have hbm : b ≠ mb := fun e => by have := h.box; rw [e, hmb] at this; cases this
  have hs5 : w.heap.size ≤ w5.heap.size := (Only.grown (S := fun _ => True) hmg (fun _ _ => trivial)).size
  have hs7 : w5.heap.size + 1 ≤ w7.heap.size := by have := (Only.grown (S := fun _ => True) hg (fun _ _ => trivial)).size; simpa using this
  have k : ∀ j, j < w.heap.size → j ≠ mb → vl.ownBlock ≠ some j → w7.heap[j]? = w.heap[j]? := fun j hj h1 h2 => by
    rw [hg.block j (by simp; omega) (fun e => h2 e.symm), (below_new w5 o).block j (by omega)]
    exact hmg.block j hj (by simpa using h1)
  have hvb : vl.ownBlock ≠ some b := fun e => by
    obtain ⟨_, cur, hc⟩ := own_blk h.row e
    rw [h.box] at hc
    injection hc with hc
    injection hc with _ hc _
    exact absurd hc (by decide)
  have hvm5 : ∀ j, vl.ownBlock = some j → j ≠ mb := fun j e q => by
    obtain ⟨_, cur, hc⟩ := own_blk h.row e
    rw [q, hmb] at hc
    cases hc
  have box7 := (k b hbl hbm hvb).trans h.box
  have m7 : w7.ownsMap Try.prog 26 (plainElem Try.prog 3) mb (M.length + 1) (D.put (klT l) (.lit (.int .i64 (M.length : Nat)))) := by
    refine map_keep hmo ?_
    rw [hg.block _ (by have := hmo.lt; simp; omega) (fun e => hvm5 mb e.symm rfl)]
    exact (below_new w5 o).block _ hmo.lt
  refine ⟨box7, ⟨?_, ?_, ?_, ?_, h.lob, h.lom, ?_, ?_⟩, ?_⟩
  · exact heap_set box7
  · rw [List.length_append]
    refine map_keep m7 (heap_set_other (fun e => hbm e.symm))
  · exact h.mi.put (fun a b ha hb e => klT_inj ha hb e) h.mp.isMap (klT_key l) hl hm
  · rw [tCs_snoc, List.length_append]
    refine own_keep ho (fun j cur hj hc => heap_set_other (fun e => ?_))
    rw [e, box7] at hc
    injection hc with hc
    injection hc with _ hc _
    exact absurd hc (by decide)
  · intro x hx
    rcases List.mem_append.1 hx with hx | hx
    · exact h.all x hx
    · simp at hx; subst hx; exact ⟨hl, hn⟩
  · simp; omega
  · refine ⟨?_, ?_⟩
    · exact (((Below.refl 0 w).grown hmg (by omega) (fun _ _ => Nat.zero_le _)).alloc (Nat.zero_le _) o |>.grown hg (by omega) (fun _ _ => Nat.zero_le _)).setCell (p := ⟨b, 3, none⟩) (Nat.zero_le _) _
    · intro j hj hS
      unfold TS at hS
      rw [heap_set_other (fun e => hS (.inl e))]
      exact k j hj (fun e => hS (.inr (.inl e))) (fun e => hS (.inr (.inr e)))
end Go.Proofs.Ytihjhkbbpphocaa

namespace Go.Proofs.Ytihjhkbbpphocaa
open Go Go.RowKit Go.Lib Go.Maps
set_option linter.unusedVariables false
attribute [-instance] List.instBEq
theorem grown_drew {w w' : World} {r : Option Nat} (h : w.grownBy w' r) : w.grownBy w'.drew r := ⟨h.os, h.tape, h.output, h.size, h.block⟩
theorem wfNm {s : Nat} (h : s ≤ 9223372036854775807) : (Lit.int .i64 (s : Int)).wf = true := WalkArith.wf_i64 (by omega)
/-- What Put of a new transformation leaves. -/
def PtN (base b mb n : Nat) (vl : Value) (M : List (List Nat)) (D : DataW Unit) (l : List Nat) (w : World) (e : Ending) (w' : World) : Prop := ∃ vl', e = .returned (.tuple #[.int .i64 (M.length : Nat), .bool true, .int .i64 0]) ∧ TB base w' b mb n vl' (M ++ [l]) (D.put (klT l) (.lit (.int .i64 (M.length : Nat)))) ∧ Only (TS b mb vl) w w' ∧ (vl'.ownBlock = vl.ownBlock ∨ ∃ x, vl'.ownBlock = some x ∧ w.heap.size ≤ x)

set_option maxHeartbeats 4000000 in
set_option maxRecDepth 100000 in
theorem tput_old {base : Nat} {w : World} {b mb n : Nat} {vl : Value} {M : List (List Nat)} {D : DataW Unit} (h : TB base w b mb n vl M D) {l : List Nat} (hl : Tf l) (hn : l.length = n) (hm : l ∈ M) {p : Nat} (hp : M.idxOf l = p) :
    Calls Try.prog 52 #[.pointer (some ⟨b, 0, none⟩), .agg (tC l)] w fun e w' => e = .returned (.tuple #[.int .i64 (p : Nat), .bool false, .int .i64 0]) ∧ Below w.heap.size w w' := by
  have HCK : Hid (∀ y, Calls Try.prog 11 #[.agg (tC l)] y fun e w' => e = .returned (.int .i64 0) ∧ Below y.heap.size y w') := fun y => tcheck_ok l hl y
  obtain ⟨p0, p1, p2, p3, p4, p5, p6, hcs⟩ : ∃ p0 p1 p2 p3 p4 p5 p6 : Int, tC l = #[.int .i64 (n : Int), .int .u64 p0, .int .u64 p1, .int .u64 p2, .int .u64 p3, .int .u64 p4, .int .u64 p5, .int .u64 p6] := ⟨_, _, _, _, _, _, _, by subst hn; rfl⟩
  have hkey := klT_of hl
  have hhas := h.mi.has l hl
  have hnum := h.mi.num l hl
  obtain ⟨a, cap, rfl⟩ := own_shape h.row
  obtain ⟨w0, hw0⟩ : ∃ w0, w0 = w.alloc (.cells (tC l) 26) := ⟨_, rfl⟩
  have hb0 : Below w.heap.size w w0 := by rw [hw0]; exact below_new _ _
  have HT : Hid (TB base w0 b mb n (.slice a M.length cap) M D) := h.below hb0
  have HL : Hid (w0.heap[w.heap.size]? = some (.cells (tC l) 26 (0, 0))) := by show _ = _; rw [hw0]; exact heap_last _ _
  have HLC : Hid (tC l = #[.int .i64 (n : Int), .int .u64 p0, .int .u64 p1, .int .u64 p2, .int .u64 p3, .int .u64 p4, .int .u64 p5, .int .u64 p6]) := hcs
  have HB : Hid (Below w.heap.size w w0) := hb0
  rw [hcs] at HCK HL hkey hw0
  rw [hcs]
  have HW : Hid (w0 = w.alloc (.cells #[.int .i64 (n : Int), .int .u64 p0, .int .u64 p1, .int .u64 p2, .int .u64 p3, .int .u64 p4, .int .u64 p5, .int .u64 p6] 26)) := hw0
  have hLlt : w.heap.size < w0.heap.size := (Array.getElem?_eq_some_iff.1 HL.out).1
  have hblt : b < w0.heap.size := (Array.getElem?_eq_some_iff.1 HT.out.box).1
  have HTF : Hid (Tf l ∧ l.length = n) := ⟨hl, hn⟩
  have HT0 : Hid (TB base w b mb n (.slice a M.length cap) M D) := h
  have HSK : Hid (∀ y z, ((∀ o, y.cell? ⟨w.heap.size, o, none⟩ = (#[.int .i64 (n : Int), .int .u64 p0, .int .u64 p1, .int .u64 p2, .int .u64 p3, .int .u64 p4, .int .u64 p5, .int .u64 p6] : Array Value)[o]?) ∧ y.cell? ⟨b, 1, none⟩ = some (.int .i64 (n : Int)) ∧ Below w0.heap.size w0 y) → Below y.heap.size y z → ((∀ o, z.cell? ⟨w.heap.size, o, none⟩ = (#[.int .i64 (n : Int), .int .u64 p0, .int .u64 p1, .int .u64 p2, .int .u64 p3, .int .u64 p4, .int .u64 p5, .int .u64 p6] : Array Value)[o]?) ∧ z.cell? ⟨b, 1, none⟩ = some (.int .i64 (n : Int)) ∧ Below w0.heap.size w0 z)) := fun y z hy hz => by
    have h3 := hy.2.2.size
    exact ⟨fun o => by rw [below_cellJ hz (by omega)]; exact hy.1 o, by rw [below_cellJ hz (by omega)]; exact hy.2.1, go_on hy.2.2 hz⟩
  have S0 : ((∀ o, w0.drew.cell? ⟨w.heap.size, o, none⟩ = (#[.int .i64 (n : Int), .int .u64 p0, .int .u64 p1, .int .u64 p2, .int .u64 p3, .int .u64 p4, .int .u64 p5, .int .u64 p6] : Array Value)[o]?) ∧ w0.drew.cell? ⟨b, 1, none⟩ = some (.int .i64 (n : Int)) ∧ Below w0.heap.size w0 w0.drew) := ⟨fun o => cell_of_row _ _ _ _ _ _ HL.out, cell_at HT.out.box rfl, (Below.refl _ _).drew⟩
  clear h hw0 hb0 hl hn hcs
  go_enter Try.func52, Try.ntmps52
  go_wp2_with fail
  rw [← HW.out]
  refine (tmade_any HT.out).mono ?_
  rintro e w1 ⟨rfl, rfl⟩
  go_wp2_with fail
  go_region_held3 (fun y => ((∀ o, y.cell? ⟨w.heap.size, o, none⟩ = (#[.int .i64 (n : Int), .int .u64 p0, .int .u64 p1, .int .u64 p2, .int .u64 p3, .int .u64 p4, .int .u64 p5, .int .u64 p6] : Array Value)[o]?) ∧ y.cell? ⟨b, 1, none⟩ = some (.int .i64 (n : Int)) ∧ Below w0.heap.size w0 y)) (first | exact S0 | assumption | exact HSK.out _ _ (by assumption) (by assumption)) (first | (refine (HCK.out _).mono ?_; rintro e y1 ⟨rfl, hy1⟩))
  have HB1 : Hid (Below w0.heap.size w0 y1) := (show ((∀ o, y1.cell? ⟨w.heap.size, o, none⟩ = (#[.int .i64 (n : Int), .int .u64 p0, .int .u64 p1, .int .u64 p2, .int .u64 p3, .int .u64 p4, .int .u64 p5, .int .u64 p6] : Array Value)[o]?) ∧ y1.cell? ⟨b, 1, none⟩ = some (.int .i64 (n : Int)) ∧ Below w0.heap.size w0 y1) by assumption).2.2
  have HT1 : Hid (TB base y1 b mb n (.slice a M.length cap) M D) := HT.out.below HB1.out
  have HL1 : Hid (y1.heap[w.heap.size]? = some (.cells #[.int .i64 (n : Int), .int .u64 p0, .int .u64 p1, .int .u64 p2, .int .u64 p3, .int .u64 p4, .int .u64 p5, .int .u64 p6] 26 (0, 0))) := (HB1.out.block _ hLlt).trans HL.out
  have HBW : Hid (Below w.heap.size w y1) := HB.out.trans (HB1.out.mono (Nat.le_of_lt hLlt))
  clear HB1 HT HL HB HW HSK S0 HCK
  have d0 : y1.drew.cell? ⟨w.heap.size, 0, none⟩ = some (.int .i64 (n : Int)) := cell_at HL1.out rfl
  have d1 : y1.drew.cell? ⟨w.heap.size, 1, none⟩ = some (.int .u64 p0) := cell_at HL1.out rfl
  have d2 : y1.drew.cell? ⟨w.heap.size, 2, none⟩ = some (.int .u64 p1) := cell_at HL1.out rfl
  have d3 : y1.drew.cell? ⟨w.heap.size, 3, none⟩ = some (.int .u64 p2) := cell_at HL1.out rfl
  have d4 : y1.drew.cell? ⟨w.heap.size, 4, none⟩ = some (.int .u64 p3) := cell_at HL1.out rfl
  have d5 : y1.drew.cell? ⟨w.heap.size, 5, none⟩ = some (.int .u64 p4) := cell_at HL1.out rfl
  have d6 : y1.drew.cell? ⟨w.heap.size, 6, none⟩ = some (.int .u64 p5) := cell_at HL1.out rfl
  have d7 : y1.drew.cell? ⟨w.heap.size, 7, none⟩ = some (.int .u64 p6) := cell_at HL1.out rfl
  have t2 : y1.drew.cell? ⟨b, 2, none⟩ = some (.map (some mb)) := cell_at HT1.out.box rfl
  have hhas : Maps.has D (klT l) = true := by rw [hhas]; exact decide_eq_true hm
  have hnum2 := hnum hm (.lit (.int .i64 0))
  rw [hp] at hnum2
  have hlk : (Instr.lookup 99 (.map (some mb)) (.agg #[.int .i64 (n : Int), .int .u64 p0, .int .u64 p1, .int .u64 p2, .int .u64 p3, .int .u64 p4, .int .u64 p5, .int .u64 p6]) true).run Try.prog y1.drew = .ok (.tuple #[.int .i64 (p : Nat), .bool true]) y1.drew := by
    obtain ⟨v, ps, h1, h2⟩ := HT1.out.mp.drew.look_ok keyT Try.und_mapT (Try.zero_int _) (plainElem_int Try.und_int (by decide)) hkey
    rw [hnum2] at h2
    obtain ⟨c, rfl, h3, _⟩ := plainElem_int_inv Try.und_int h2
    simp only [Prod.mk.injEq, DataW.lit.injEq, Lit.int.injEq, true_and] at h3
    obtain ⟨h3, _⟩ := h3
    rw [h1, hhas, h3]
  clear hhas hnum hnum2 hkey hm hp
  go_wp2_with fail
  go_region
  go_wp2_with fail
  go_ret3
  exact ⟨rfl, HBW.out.drew⟩

set_option maxHeartbeats 4000000 in
set_option maxRecDepth 100000 in
theorem tput_full {base : Nat} {w : World} {b mb n : Nat} {vl : Value} {M : List (List Nat)} {D : DataW Unit} (h : TB base w b mb n vl M D) {l : List Nat} (hl : Tf l) (hn : l.length = n) (hm : l ∉ M) (hf : 512 ≤ M.length) :
    Calls Try.prog 52 #[.pointer (some ⟨b, 0, none⟩), .agg (tC l)] w fun e w' => e = .returned (.tuple #[.int .i64 0, .bool false, .int .i64 2]) ∧ Below w.heap.size w w' := by
  have HCK : Hid (∀ y, Calls Try.prog 11 #[.agg (tC l)] y fun e w' => e = .returned (.int .i64 0) ∧ Below y.heap.size y w') := fun y => tcheck_ok l hl y
  obtain ⟨p0, p1, p2, p3, p4, p5, p6, hcs⟩ : ∃ p0 p1 p2 p3 p4 p5 p6 : Int, tC l = #[.int .i64 (n : Int), .int .u64 p0, .int .u64 p1, .int .u64 p2, .int .u64 p3, .int .u64 p4, .int .u64 p5, .int .u64 p6] := ⟨_, _, _, _, _, _, _, by subst hn; rfl⟩
  have hkey := klT_of hl
  have hhas := h.mi.has l hl
  have hnum := h.mi.num l hl
  obtain ⟨a, cap, rfl⟩ := own_shape h.row
  obtain ⟨w0, hw0⟩ : ∃ w0, w0 = w.alloc (.cells (tC l) 26) := ⟨_, rfl⟩
  have hb0 : Below w.heap.size w w0 := by rw [hw0]; exact below_new _ _
  have HT : Hid (TB base w0 b mb n (.slice a M.length cap) M D) := h.below hb0
  have HL : Hid (w0.heap[w.heap.size]? = some (.cells (tC l) 26 (0, 0))) := by show _ = _; rw [hw0]; exact heap_last _ _
  have HLC : Hid (tC l = #[.int .i64 (n : Int), .int .u64 p0, .int .u64 p1, .int .u64 p2, .int .u64 p3, .int .u64 p4, .int .u64 p5, .int .u64 p6]) := hcs
  have HB : Hid (Below w.heap.size w w0) := hb0
  rw [hcs] at HCK HL hkey hw0
  rw [hcs]
  have HW : Hid (w0 = w.alloc (.cells #[.int .i64 (n : Int), .int .u64 p0, .int .u64 p1, .int .u64 p2, .int .u64 p3, .int .u64 p4, .int .u64 p5, .int .u64 p6] 26)) := hw0
  have hLlt : w.heap.size < w0.heap.size := (Array.getElem?_eq_some_iff.1 HL.out).1
  have hblt : b < w0.heap.size := (Array.getElem?_eq_some_iff.1 HT.out.box).1
  have HTF : Hid (Tf l ∧ l.length = n) := ⟨hl, hn⟩
  have HT0 : Hid (TB base w b mb n (.slice a M.length cap) M D) := h
  have HSK : Hid (∀ y z, ((∀ o, y.cell? ⟨w.heap.size, o, none⟩ = (#[.int .i64 (n : Int), .int .u64 p0, .int .u64 p1, .int .u64 p2, .int .u64 p3, .int .u64 p4, .int .u64 p5, .int .u64 p6] : Array Value)[o]?) ∧ y.cell? ⟨b, 1, none⟩ = some (.int .i64 (n : Int)) ∧ Below w0.heap.size w0 y) → Below y.heap.size y z → ((∀ o, z.cell? ⟨w.heap.size, o, none⟩ = (#[.int .i64 (n : Int), .int .u64 p0, .int .u64 p1, .int .u64 p2, .int .u64 p3, .int .u64 p4, .int .u64 p5, .int .u64 p6] : Array Value)[o]?) ∧ z.cell? ⟨b, 1, none⟩ = some (.int .i64 (n : Int)) ∧ Below w0.heap.size w0 z)) := fun y z hy hz => by
    have h3 := hy.2.2.size
    exact ⟨fun o => by rw [below_cellJ hz (by omega)]; exact hy.1 o, by rw [below_cellJ hz (by omega)]; exact hy.2.1, go_on hy.2.2 hz⟩
  have S0 : ((∀ o, w0.drew.cell? ⟨w.heap.size, o, none⟩ = (#[.int .i64 (n : Int), .int .u64 p0, .int .u64 p1, .int .u64 p2, .int .u64 p3, .int .u64 p4, .int .u64 p5, .int .u64 p6] : Array Value)[o]?) ∧ w0.drew.cell? ⟨b, 1, none⟩ = some (.int .i64 (n : Int)) ∧ Below w0.heap.size w0 w0.drew) := ⟨fun o => cell_of_row _ _ _ _ _ _ HL.out, cell_at HT.out.box rfl, (Below.refl _ _).drew⟩
  clear h hw0 hb0 hl hn hcs
  go_enter Try.func52, Try.ntmps52
  go_wp2_with fail
  rw [← HW.out]
  refine (tmade_any HT.out).mono ?_
  rintro e w1 ⟨rfl, rfl⟩
  go_wp2_with fail
  go_region_held3 (fun y => ((∀ o, y.cell? ⟨w.heap.size, o, none⟩ = (#[.int .i64 (n : Int), .int .u64 p0, .int .u64 p1, .int .u64 p2, .int .u64 p3, .int .u64 p4, .int .u64 p5, .int .u64 p6] : Array Value)[o]?) ∧ y.cell? ⟨b, 1, none⟩ = some (.int .i64 (n : Int)) ∧ Below w0.heap.size w0 y)) (first | exact S0 | assumption | exact HSK.out _ _ (by assumption) (by assumption)) (first | (refine (HCK.out _).mono ?_; rintro e y1 ⟨rfl, hy1⟩))
  have HB1 : Hid (Below w0.heap.size w0 y1) := (show ((∀ o, y1.cell? ⟨w.heap.size, o, none⟩ = (#[.int .i64 (n : Int), .int .u64 p0, .int .u64 p1, .int .u64 p2, .int .u64 p3, .int .u64 p4, .int .u64 p5, .int .u64 p6] : Array Value)[o]?) ∧ y1.cell? ⟨b, 1, none⟩ = some (.int .i64 (n : Int)) ∧ Below w0.heap.size w0 y1) by assumption).2.2
  have HT1 : Hid (TB base y1 b mb n (.slice a M.length cap) M D) := HT.out.below HB1.out
  have HL1 : Hid (y1.heap[w.heap.size]? = some (.cells #[.int .i64 (n : Int), .int .u64 p0, .int .u64 p1, .int .u64 p2, .int .u64 p3, .int .u64 p4, .int .u64 p5, .int .u64 p6] 26 (0, 0))) := (HB1.out.block _ hLlt).trans HL.out
  have HBW : Hid (Below w.heap.size w y1) := HB.out.trans (HB1.out.mono (Nat.le_of_lt hLlt))
  clear HB1 HT HL HB HW HSK S0 HCK
  have d0 : y1.drew.cell? ⟨w.heap.size, 0, none⟩ = some (.int .i64 (n : Int)) := cell_at HL1.out rfl
  have d1 : y1.drew.cell? ⟨w.heap.size, 1, none⟩ = some (.int .u64 p0) := cell_at HL1.out rfl
  have d2 : y1.drew.cell? ⟨w.heap.size, 2, none⟩ = some (.int .u64 p1) := cell_at HL1.out rfl
  have d3 : y1.drew.cell? ⟨w.heap.size, 3, none⟩ = some (.int .u64 p2) := cell_at HL1.out rfl
  have d4 : y1.drew.cell? ⟨w.heap.size, 4, none⟩ = some (.int .u64 p3) := cell_at HL1.out rfl
  have d5 : y1.drew.cell? ⟨w.heap.size, 5, none⟩ = some (.int .u64 p4) := cell_at HL1.out rfl
  have d6 : y1.drew.cell? ⟨w.heap.size, 6, none⟩ = some (.int .u64 p5) := cell_at HL1.out rfl
  have d7 : y1.drew.cell? ⟨w.heap.size, 7, none⟩ = some (.int .u64 p6) := cell_at HL1.out rfl
  have t2 : y1.drew.cell? ⟨b, 2, none⟩ = some (.map (some mb)) := cell_at HT1.out.box rfl
  have hhas : Maps.has D (klT l) = false := by rw [hhas]; exact decide_eq_false hm
  have hnum2 : D.atKey (klT l) (.lit (.int .i64 0)) = .lit (.int .i64 0) := atKey_of_not_has hhas _
  have hlk : (Instr.lookup 99 (.map (some mb)) (.agg #[.int .i64 (n : Int), .int .u64 p0, .int .u64 p1, .int .u64 p2, .int .u64 p3, .int .u64 p4, .int .u64 p5, .int .u64 p6]) true).run Try.prog y1.drew = .ok (.tuple #[.int .i64 0, .bool false]) y1.drew := by
    obtain ⟨v, ps, h1, h2⟩ := HT1.out.mp.drew.look_ok keyT Try.und_mapT (Try.zero_int _) (plainElem_int Try.und_int (by decide)) hkey
    rw [hnum2] at h2
    obtain ⟨c, rfl, h3, _⟩ := plainElem_int_inv Try.und_int h2
    simp only [Prod.mk.injEq, DataW.lit.injEq, Lit.int.injEq, true_and] at h3
    obtain ⟨h3, _⟩ := h3
    rw [h1, hhas, h3]
  clear hhas hnum hnum2
  go_wp2_with fail
  go_region
  clear hlk
  have t3 : y1.drew.cell? ⟨b, 3, none⟩ = some (.slice a M.length cap) := cell_at HT1.out.box rfl
  have hI : (512 : Int) ≤ M.length := by omega
  clear hm hkey
  go_wp2_with fail
  go_ret3
  exact ⟨rfl, HBW.out.drew⟩

set_option maxHeartbeats 4000000 in
set_option maxRecDepth 100000 in
theorem tput_new {base : Nat} {w : World} {b mb n : Nat} {vl : Value} {M : List (List Nat)} {D : DataW Unit} (h : TB base w b mb n vl M D) {l : List Nat} (hl : Tf l) (hn : l.length = n) (hm : l ∉ M) (hf : M.length < 512) :
    Calls Try.prog 52 #[.pointer (some ⟨b, 0, none⟩), .agg (tC l)] w (PtN base b mb n vl M D l w) := by
  have HCK : Hid (∀ y, Calls Try.prog 11 #[.agg (tC l)] y fun e w' => e = .returned (.int .i64 0) ∧ Below y.heap.size y w') := fun y => tcheck_ok l hl y
  obtain ⟨p0, p1, p2, p3, p4, p5, p6, hcs⟩ : ∃ p0 p1 p2 p3 p4 p5 p6 : Int, tC l = #[.int .i64 (n : Int), .int .u64 p0, .int .u64 p1, .int .u64 p2, .int .u64 p3, .int .u64 p4, .int .u64 p5, .int .u64 p6] := ⟨_, _, _, _, _, _, _, by subst hn; rfl⟩
  have hkey := klT_of hl
  have hhas := h.mi.has l hl
  have hnum := h.mi.num l hl
  obtain ⟨a, cap, rfl⟩ := own_shape h.row
  obtain ⟨w0, hw0⟩ : ∃ w0, w0 = w.alloc (.cells (tC l) 26) := ⟨_, rfl⟩
  have hb0 : Below w.heap.size w w0 := by rw [hw0]; exact below_new _ _
  have HT : Hid (TB base w0 b mb n (.slice a M.length cap) M D) := h.below hb0
  have HL : Hid (w0.heap[w.heap.size]? = some (.cells (tC l) 26 (0, 0))) := by show _ = _; rw [hw0]; exact heap_last _ _
  have HLC : Hid (tC l = #[.int .i64 (n : Int), .int .u64 p0, .int .u64 p1, .int .u64 p2, .int .u64 p3, .int .u64 p4, .int .u64 p5, .int .u64 p6]) := hcs
  have HB : Hid (Below w.heap.size w w0) := hb0
  rw [hcs] at HCK HL hkey hw0
  rw [hcs]
  have HW : Hid (w0 = w.alloc (.cells #[.int .i64 (n : Int), .int .u64 p0, .int .u64 p1, .int .u64 p2, .int .u64 p3, .int .u64 p4, .int .u64 p5, .int .u64 p6] 26)) := hw0
  have hLlt : w.heap.size < w0.heap.size := (Array.getElem?_eq_some_iff.1 HL.out).1
  have hblt : b < w0.heap.size := (Array.getElem?_eq_some_iff.1 HT.out.box).1
  have HTF : Hid (Tf l ∧ l.length = n) := ⟨hl, hn⟩
  have HT0 : Hid (TB base w b mb n (.slice a M.length cap) M D) := h
  have HSK : Hid (∀ y z, ((∀ o, y.cell? ⟨w.heap.size, o, none⟩ = (#[.int .i64 (n : Int), .int .u64 p0, .int .u64 p1, .int .u64 p2, .int .u64 p3, .int .u64 p4, .int .u64 p5, .int .u64 p6] : Array Value)[o]?) ∧ y.cell? ⟨b, 1, none⟩ = some (.int .i64 (n : Int)) ∧ Below w0.heap.size w0 y) → Below y.heap.size y z → ((∀ o, z.cell? ⟨w.heap.size, o, none⟩ = (#[.int .i64 (n : Int), .int .u64 p0, .int .u64 p1, .int .u64 p2, .int .u64 p3, .int .u64 p4, .int .u64 p5, .int .u64 p6] : Array Value)[o]?) ∧ z.cell? ⟨b, 1, none⟩ = some (.int .i64 (n : Int)) ∧ Below w0.heap.size w0 z)) := fun y z hy hz => by
    have h3 := hy.2.2.size
    exact ⟨fun o => by rw [below_cellJ hz (by omega)]; exact hy.1 o, by rw [below_cellJ hz (by omega)]; exact hy.2.1, go_on hy.2.2 hz⟩
  have S0 : ((∀ o, w0.drew.cell? ⟨w.heap.size, o, none⟩ = (#[.int .i64 (n : Int), .int .u64 p0, .int .u64 p1, .int .u64 p2, .int .u64 p3, .int .u64 p4, .int .u64 p5, .int .u64 p6] : Array Value)[o]?) ∧ w0.drew.cell? ⟨b, 1, none⟩ = some (.int .i64 (n : Int)) ∧ Below w0.heap.size w0 w0.drew) := ⟨fun o => cell_of_row _ _ _ _ _ _ HL.out, cell_at HT.out.box rfl, (Below.refl _ _).drew⟩
  clear h hw0 hb0 hl hn hcs
  go_enter Try.func52, Try.ntmps52
  go_wp2_with fail
  rw [← HW.out]
  refine (tmade_any HT.out).mono ?_
  rintro e w1 ⟨rfl, rfl⟩
  go_wp2_with fail
  go_region_held3 (fun y => ((∀ o, y.cell? ⟨w.heap.size, o, none⟩ = (#[.int .i64 (n : Int), .int .u64 p0, .int .u64 p1, .int .u64 p2, .int .u64 p3, .int .u64 p4, .int .u64 p5, .int .u64 p6] : Array Value)[o]?) ∧ y.cell? ⟨b, 1, none⟩ = some (.int .i64 (n : Int)) ∧ Below w0.heap.size w0 y)) (first | exact S0 | assumption | exact HSK.out _ _ (by assumption) (by assumption)) (first | (refine (HCK.out _).mono ?_; rintro e y1 ⟨rfl, hy1⟩))
  have HB1 : Hid (Below w0.heap.size w0 y1) := (show ((∀ o, y1.cell? ⟨w.heap.size, o, none⟩ = (#[.int .i64 (n : Int), .int .u64 p0, .int .u64 p1, .int .u64 p2, .int .u64 p3, .int .u64 p4, .int .u64 p5, .int .u64 p6] : Array Value)[o]?) ∧ y1.cell? ⟨b, 1, none⟩ = some (.int .i64 (n : Int)) ∧ Below w0.heap.size w0 y1) by assumption).2.2
  have HT1 : Hid (TB base y1 b mb n (.slice a M.length cap) M D) := HT.out.below HB1.out
  have HL1 : Hid (y1.heap[w.heap.size]? = some (.cells #[.int .i64 (n : Int), .int .u64 p0, .int .u64 p1, .int .u64 p2, .int .u64 p3, .int .u64 p4, .int .u64 p5, .int .u64 p6] 26 (0, 0))) := (HB1.out.block _ hLlt).trans HL.out
  have HBW : Hid (Below w.heap.size w y1) := HB.out.trans (HB1.out.mono (Nat.le_of_lt hLlt))
  clear HB1 HT HL HB HW HSK S0 HCK
  have d0 : y1.drew.cell? ⟨w.heap.size, 0, none⟩ = some (.int .i64 (n : Int)) := cell_at HL1.out rfl
  have d1 : y1.drew.cell? ⟨w.heap.size, 1, none⟩ = some (.int .u64 p0) := cell_at HL1.out rfl
  have d2 : y1.drew.cell? ⟨w.heap.size, 2, none⟩ = some (.int .u64 p1) := cell_at HL1.out rfl
  have d3 : y1.drew.cell? ⟨w.heap.size, 3, none⟩ = some (.int .u64 p2) := cell_at HL1.out rfl
  have d4 : y1.drew.cell? ⟨w.heap.size, 4, none⟩ = some (.int .u64 p3) := cell_at HL1.out rfl
  have d5 : y1.drew.cell? ⟨w.heap.size, 5, none⟩ = some (.int .u64 p4) := cell_at HL1.out rfl
  have d6 : y1.drew.cell? ⟨w.heap.size, 6, none⟩ = some (.int .u64 p5) := cell_at HL1.out rfl
  have d7 : y1.drew.cell? ⟨w.heap.size, 7, none⟩ = some (.int .u64 p6) := cell_at HL1.out rfl
  have t2 : y1.drew.cell? ⟨b, 2, none⟩ = some (.map (some mb)) := cell_at HT1.out.box rfl
  have hhas : Maps.has D (klT l) = false := by rw [hhas]; exact decide_eq_false hm
  have hnum2 : D.atKey (klT l) (.lit (.int .i64 0)) = .lit (.int .i64 0) := atKey_of_not_has hhas _
  have hlk : (Instr.lookup 99 (.map (some mb)) (.agg #[.int .i64 (n : Int), .int .u64 p0, .int .u64 p1, .int .u64 p2, .int .u64 p3, .int .u64 p4, .int .u64 p5, .int .u64 p6]) true).run Try.prog y1.drew = .ok (.tuple #[.int .i64 0, .bool false]) y1.drew := by
    obtain ⟨v, ps, h1, h2⟩ := HT1.out.mp.drew.look_ok keyT Try.und_mapT (Try.zero_int _) (plainElem_int Try.und_int (by decide)) hkey
    rw [hnum2] at h2
    obtain ⟨c, rfl, h3, _⟩ := plainElem_int_inv Try.und_int h2
    simp only [Prod.mk.injEq, DataW.lit.injEq, Lit.int.injEq, true_and] at h3
    obtain ⟨h3, _⟩ := h3
    rw [h1, hhas, h3]
  clear hhas hnum hnum2
  go_wp2_with fail
  go_region
  clear hlk
  have t3 : y1.drew.cell? ⟨b, 3, none⟩ = some (.slice a M.length cap) := cell_at HT1.out.box rfl
  have hI : ¬ (512 : Int) ≤ M.length := by omega
  go_wp2_with fail
  clear t2 t3 d0 d1 d2 d3 d4 d5 d6 d7
  obtain ⟨y2, hy2⟩ : ∃ y2, y2 = y1.drew := ⟨_, rfl⟩
  rw [← hy2]
  have HT2 : Hid (TB base y2 b mb n (.slice a M.length cap) M D) := by rw [hy2]; exact HT1.out.below (Below.refl _ _).drew
  have HL2 : Hid (y2.heap[w.heap.size]? = some (.cells #[.int .i64 (n : Int), .int .u64 p0, .int .u64 p1, .int .u64 p2, .int .u64 p3, .int .u64 p4, .int .u64 p5, .int .u64 p6] 26 (0, 0))) := by rw [hy2]; exact HL1.out
  have HB2 : Hid (Below w.heap.size w y2) := by rw [hy2]; exact HBW.out.drew
  clear HT1 HL1 HBW hy2 hLlt hblt
  have d0 : y2.drew.cell? ⟨w.heap.size, 0, none⟩ = some (.int .i64 (n : Int)) := cell_at HL2.out rfl
  have d1 : y2.drew.cell? ⟨w.heap.size, 1, none⟩ = some (.int .u64 p0) := cell_at HL2.out rfl
  have d2 : y2.drew.cell? ⟨w.heap.size, 2, none⟩ = some (.int .u64 p1) := cell_at HL2.out rfl
  have d3 : y2.drew.cell? ⟨w.heap.size, 3, none⟩ = some (.int .u64 p2) := cell_at HL2.out rfl
  have d4 : y2.drew.cell? ⟨w.heap.size, 4, none⟩ = some (.int .u64 p3) := cell_at HL2.out rfl
  have d5 : y2.drew.cell? ⟨w.heap.size, 5, none⟩ = some (.int .u64 p4) := cell_at HL2.out rfl
  have d6 : y2.drew.cell? ⟨w.heap.size, 6, none⟩ = some (.int .u64 p5) := cell_at HL2.out rfl
  have d7 : y2.drew.cell? ⟨w.heap.size, 7, none⟩ = some (.int .u64 p6) := cell_at HL2.out rfl
  have t2 : y2.drew.cell? ⟨b, 2, none⟩ = some (.map (some mb)) := cell_at HT2.out.box rfl
  obtain ⟨w5, hmu, hmo, hmg⟩ := HT2.out.mp.drew.update keyT Try.und_mapT (by unfold maxLen; omega) hkey (plainElem_int Try.und_int (a := (M.length : Int)) (wfNm (by omega)))
  have HMO : Hid (w5.ownsMap Try.prog 26 (plainElem Try.prog 3) mb (M.length + 1) (D.put (klT l) (.lit (.int .i64 (M.length : Nat))))) := hmo
  have HMG : Hid (y2.drew.grownBy w5 (some mb)) := hmg
  clear hmo hmg hkey
  go_region
  clear hmu t2 d0 d1 d2 d3 d4 d5 d6 d7
  obtain ⟨i0, hi, hz0, hz1, hz2⟩ := info_parts Try.info_trL
  have hml : M.length < 512 := hf
  have hs5 : y2.heap.size ≤ w5.heap.size := (Only.grown (S := fun _ => True) HMG.out (fun _ _ => trivial)).size
  have hbl : b < y2.heap.size := (Array.getElem?_eq_some_iff.1 HT2.out.box).1
  have hwl : w.heap.size < y2.heap.size := (Array.getElem?_eq_some_iff.1 HL2.out).1
  have HL5 : Hid (w5.heap[w.heap.size]? = some (.cells #[.int .i64 (n : Int), .int .u64 p0, .int .u64 p1, .int .u64 p2, .int .u64 p3, .int .u64 p4, .int .u64 p5, .int .u64 p6] 26 (0, 0))) := by
    obtain ⟨es, ck, hmb⟩ := map_blk HT2.out.mp
    exact (HMG.out.block _ hwl (fun e => by simp only [Option.some.injEq] at e; have := HL2.out; rw [e, hmb] at this; cases this)).trans HL2.out
  have HX5 : Hid (w5.heap[b]? = some (.cells #[.pointer (some ⟨b, 0, none⟩), .int .i64 n, .map (some mb), .slice a M.length cap] 102 (0, 0))) := by
    obtain ⟨es, ck, hmb⟩ := map_blk HT2.out.mp
    exact (HMG.out.block _ hbl (fun e => by simp only [Option.some.injEq] at e; have := HT2.out.box; rw [e, hmb] at this; cases this)).trans HT2.out.box
  have HR5 : Hid (∀ O, (w5.alloc O).drew.ownsRow base 26 8 (.slice a M.length cap) M.length (tCs M)) := fun O => by
    obtain ⟨es, ck, hmb⟩ := map_blk HT2.out.mp
    have : w5.ownsRow base 26 8 (.slice a M.length cap) M.length (tCs M) := own_keep HT2.out.row (fun j cur hj hc => HMG.out.block j (Array.getElem?_eq_some_iff.1 hc).1 (fun e => by simp only [Option.some.injEq] at e; rw [e, hmb] at hc; cases hc))
    exact this.alloc O
  have d0 : w5.drew.cell? ⟨w.heap.size, 0, none⟩ = some (.int .i64 (n : Int)) := cell_at HL5.out rfl
  have d1 : w5.drew.cell? ⟨w.heap.size, 1, none⟩ = some (.int .u64 p0) := cell_at HL5.out rfl
  have d2 : w5.drew.cell? ⟨w.heap.size, 2, none⟩ = some (.int .u64 p1) := cell_at HL5.out rfl
  have d3 : w5.drew.cell? ⟨w.heap.size, 3, none⟩ = some (.int .u64 p2) := cell_at HL5.out rfl
  have d4 : w5.drew.cell? ⟨w.heap.size, 4, none⟩ = some (.int .u64 p3) := cell_at HL5.out rfl
  have d5 : w5.drew.cell? ⟨w.heap.size, 5, none⟩ = some (.int .u64 p4) := cell_at HL5.out rfl
  have d6 : w5.drew.cell? ⟨w.heap.size, 6, none⟩ = some (.int .u64 p5) := cell_at HL5.out rfl
  have d7 : w5.drew.cell? ⟨w.heap.size, 7, none⟩ = some (.int .u64 p6) := cell_at HL5.out rfl
  have t3 : w5.drew.cell? ⟨b, 3, none⟩ = some (.slice a M.length cap) := cell_at HX5.out rfl
  have t3a : ∀ O, (w5.alloc O).drew.cell? ⟨b, 3, none⟩ = some (.slice a M.length cap) := fun O => by have := below_cellJ (o := 3) (below_new w5 O) (Array.getElem?_eq_some_iff.1 HX5.out).1; exact this.trans t3
  have KN : Hid (∀ (j : Nat) (u : Value), (tC l).toList[j]? = some u → (w5.alloc (.cells #[.int .i64 (n : Int), .int .u64 p0, .int .u64 p1, .int .u64 p2, .int .u64 p3, .int .u64 p4, .int .u64 p5, .int .u64 p6] 26)).drew.cell? ((⟨w5.heap.size, 0, none⟩ : Addr).add j) = some u) := fun j u hu => by
    have hadd : (⟨w5.heap.size, 0, none⟩ : Addr).add j = ⟨w5.heap.size, j, none⟩ := by unfold Addr.add; split <;> simp_all
    rw [hadd]
    refine cell_at (heap_last w5 _) ?_
    rw [HLC.out] at hu
    simpa using hu
  have hb5 : base ≤ w5.heap.size := by have := HT2.out.lob; omega
  have HMO5 : Hid (w5.drew.ownsMap Try.prog 26 (plainElem Try.prog 3) mb (M.length + 1) (D.put (klT l) (.lit (.int .i64 (M.length : Nat))))) := HMO.out.drew
  have HMG5 : Hid (y2.drew.grownBy w5.drew (some mb)) := grown_drew HMG.out
  have HNW : Hid (∀ (g7 c7 : Nat) (w7 : World) (o : Obj), w7.ownsRow base 26 8 (.slice (some ⟨g7, 0, none⟩) (M.length + 1) c7) (M.length + 1) (tCs M ++ (tC l).toList) → (w5.drew.alloc o).grownBy w7 (Value.slice a M.length cap).ownBlock → _) := fun g7 c7 w7 o ho hg => (HT2.out.below (Below.refl _ _).drew).new HTF.out.1 HTF.out.2 hm hf HMO5.out HMG5.out ho hg
  have HDR : Hid (∀ o, (w5.drew.alloc o).heap.size = w5.heap.size + 1) := fun o => by simp
  clear HL5 hI
  go_wp2_with fail
  go_region_law (rw [if_pos (by rfl)]; refine wp_append_lies _ _ _ 100 rfl base 26 i0 (.agg (trC 0 fun _ => 0)) 8 64 Try.underlying100 hi hz0 hz1 hz2 rfl (by decide) _ _ _ rfl (HR5.out _) ⟨w5.heap.size, 0, none⟩ 1 1 (tC l).toList rfl rfl KN.out (by intro u hu; exact (Array.all_eq_true_iff_forall_mem.1 (tC_one l)) u (by simpa using hu)) (by decide) (by unfold maxLen; omega) (by omega) (by simp; omega) (w5.drew.alloc (.cells #[.int .i64 (n : Int), .int .u64 p0, .int .u64 p1, .int .u64 p2, .int .u64 p3, .int .u64 p4, .int .u64 p5, .int .u64 p6] 26)).heap.size rfl ?_; intro g7 c7 w7 ho7 hg7 hl7 _; have hgr : (w5.drew.alloc (.cells #[.int .i64 (n : Int), .int .u64 p0, .int .u64 p1, .int .u64 p2, .int .u64 p3, .int .u64 p4, .int .u64 p5, .int .u64 p6] 26)).grownBy w7 (Value.slice a M.length cap).ownBlock := hg7; have hN7 := HNW.out g7 c7 w7 (.cells #[.int .i64 (n : Int), .int .u64 p0, .int .u64 p1, .int .u64 p2, .int .u64 p3, .int .u64 p4, .int .u64 p5, .int .u64 p6] 26) ho7 hgr; have hcs : w7.cell? ⟨b, 3, none⟩ = some (.slice a M.length cap) := cell_at hN7.1 rfl; have hfz : w7.frozen? ⟨b, 3, none⟩ = false := frozen_blk hN7.1 3; have HN7 : Hid _ := hN7.2; have HL7 : Hid ((Value.slice a M.length cap).ownBlock = some g7 ∨ g7 = w5.heap.size + 1) := (by rcases hl7 with q | q; exact .inl q; exact .inr (q.trans (HDR.out _))); clear hN7 ho7 hg7 hl7 hgr)
  all_goals (
    go_wp2_with fail
    go_ret3
    refine ⟨_, rfl, HN7.out.1, (Only.of HB2.out.drew).trans HN7.out.2, ?_⟩
    rcases HL7.out with q | q
    · exact .inl q.symm
    · exact .inr ⟨g7, rfl, by have := HB2.out.size; omega⟩)
end Go.Proofs.Ytihjhkbbpphocaa

namespace Go.Proofs.Ytihjhkbbpphocaa
open Go Go.RowKit Go.Lib
set_option linter.unusedVariables false

set_option maxHeartbeats 2000000 in
set_option maxRecDepth 100000 in
theorem tcheck_any (N : Int) (g : Nat → Nat) (hg : W64 g) (w : World) :
    Calls Try.prog 11 #[.agg (trC N g)] w fun e w' => e = .returned (.int .i64 (ckN N g)) ∧ Below w.heap.size w w' := by
  have H1 : Hid (TrAt (w.alloc (.cells (trC N g) 26)) w.heap.size N g) := heap_last _ _
  have HB0 : Hid (Below w.heap.size w (w.alloc (.cells (trC N g) 26))) := (Below.refl _ _).alloc (Nat.le_refl _) _
  have hz := Try.zero_mv
  have hne := mvC_ne 0 fun _ => 0
  have hsz := mvC_size 0 fun _ => 0
  by_cases h : okT N g
  · have e : ckN N g = 0 := by unfold ckN; rw [if_pos h]
    rw [e]
    have HO : Hid (∀ w, Calls Try.prog 38 #[.agg (trC N g)] w fun e w' => e = .returned (.tuple #[.agg (mvC (dgl N g).length (im (dgl N g))), .int .i64 0]) ∧ Below w.heap.size w w') := fun w => by
      have := open_any N g hg w
      rw [opV_ok h] at this
      exact this
    clear e
    go_enter Try.func11, Try.ntmps11
    go_wp2_with (refine wpList_load_row rfl 26 _ rfl (w.heap.size) rfl 26 (trC N g) (0, 0) _ (H1.out) Try.underlying26 rfl (rfl) ?_)
    refine (HO.out _).mono ?_
    rintro e w1 ⟨rfl, hB1⟩
    have HB1 : Hid (Below w.heap.size w w1) := HB0.out.trans (hB1.mono (by simp))
    clear hB1
    have hst := st_mvNew2 w1 (dgl N g).length (im (dgl N g))
    have hszl := mvC_size (dgl N g).length (im (dgl N g))
    go_wp2_with fail
    go_ret
    exact ⟨rfl, HB1.out.alloc HB1.out.size _⟩
  · have e : ckN N g = 130 := by unfold ckN; rw [if_neg h]
    rw [e]
    clear e
    go_enter Try.func11, Try.ntmps11
    go_wp2_with (refine wpList_load_row rfl 26 _ rfl (w.heap.size) rfl 26 (trC N g) (0, 0) _ (H1.out) Try.underlying26 rfl (rfl) ?_)
    refine (open_bad N g hg h _).mono ?_
    rintro e w1 ⟨rfl, hB1⟩
    have HB1 : Hid (Below w.heap.size w w1) := HB0.out.trans (hB1.mono (by simp))
    clear hB1
    have hst := mvz_st w1
    go_wp2_with fail
    go_ret
    exact ⟨rfl, HB1.out.alloc HB1.out.size _⟩

end Go.Proofs.Ytihjhkbbpphocaa

namespace Go.Proofs.Ytihjhkbbpphocaa
open Go Go.RowKit Go.Lib Go.Maps
set_option linter.unusedVariables false
attribute [-instance] List.instBEq

/-- Is it the transformation of that list? -/
def mt (N : Int) (g : Nat → Nat) (l : List Nat) : Bool := same2 7 (l.length : Int) N (pk (im l) l.length) g
theorem mt_eq {N : Int} {g : Nat → Nat} {l : List Nat} (h : mt N g l = true) : trC N g = tC l := by
  obtain ⟨h1, h2⟩ := same2_iff.1 h
  subst h1
  exact trC_congr (fun k hk => (h2 k hk).symm)
theorem mt_of {N : Int} {g : Nat → Nat} {l : List Nat} (h : trC N g = tC l) : mt N g l = true := by
  obtain ⟨a, b⟩ := trC_inj h
  exact same2_iff.2 ⟨a.symm, fun k hk => (b k hk).symm⟩
theorem mt_self (l : List Nat) : mt l.length (pk (im l) l.length) l = true := same2_iff.2 ⟨rfl, fun _ _ => rfl⟩
theorem found (N : Int) (g : Nat → Nat) : ∀ M : List (List Nat), (∃ (p : Nat) (l : List Nat), M[p]? = some l ∧ mt N g l = true ∧ ∀ (q : Nat) (l' : List Nat), q < p → M[q]? = some l' → mt N g l' = false) ∨ (∀ l ∈ M, mt N g l = false)
  | [] => .inr (fun l hl => by simp at hl)
  | a :: M => by
    by_cases h : mt N g a = true
    · exact .inl ⟨0, a, rfl, h, fun q l' hq => by omega⟩
    · have h : mt N g a = false := by simpa using h
      rcases found N g M with ⟨p, l, h1, h2, h3⟩ | h1
      · refine .inl ⟨p + 1, l, by simpa using h1, h2, fun q l' hq hl => ?_⟩
        cases q with
        | zero => simp at hl; subst hl; exact h
        | succ q => exact h3 q l' (by omega) (by simpa using hl)
      · refine .inr (fun l hl => ?_)
        rcases List.mem_cons.1 hl with rfl | hl
        · exact h
        · exact h1 l hl
/-- The first one that is it is its number. -/
theorem first_idx {M : List (List Nat)} {l : List Nat} {N : Int} {g : Nat → Nat} {p : Nat} (h : M[p]? = some l) (h1 : mt N g l = true) (h2 : ∀ (q : Nat) (l' : List Nat), q < p → M[q]? = some l' → mt N g l' = false) : l ∈ M ∧ M.idxOf l = p := by
  have hm : l ∈ M := List.mem_of_getElem? h
  refine ⟨hm, ?_⟩
  have hi : M.idxOf l < M.length := List.idxOf_lt_length_of_mem hm
  have he : M[M.idxOf l]? = some l := by rw [List.getElem?_eq_getElem hi]; simp
  have hp := (List.getElem?_eq_some_iff.1 h).1
  have hle : M.idxOf l ≤ p := by
    by_cases q : M.idxOf l ≤ p
    · exact q
    · exfalso
      have hlt : p < M.idxOf l := by omega
      have := List.not_of_lt_findIdx (p := (· == l)) (xs := M) (i := p) hlt
      rw [(List.getElem?_eq_some_iff.1 h).2] at this
      simp at this
  by_cases e : M.idxOf l = p
  · exact e
  · have := h2 _ _ (by omega) he
    rw [h1] at this
    cases this

/-- The map has no other keys than the list's. -/
def NK (D : DataW Unit) (M : List (List Nat)) : Prop := ∀ k, (∀ l ∈ M, k ≠ klT l) → Maps.has D k = false
theorem NK.empty : NK (.map []) [] := fun k _ => by simp [Maps.has]
theorem NK.put {D : DataW Unit} {M : List (List Nat)} (h : NK D M) (l : List Nat) (x : DataW Unit) : NK (D.put (klT l) x) (M ++ [l]) := fun k hk => by
  rw [has_put_other (fun e => hk l (by simp) e)]
  exact h k (fun m hm => hk m (by simp [hm]))

def I64w (N : Int) : Prop := (Lit.int .i64 N).wf = true
theorem klG_of {N : Int} {g : Nat → Nat} (hN : (Lit.int .i64 N).wf = true) (hg : W64 g) : keyOf Try.prog 26 (.agg (trC N g)) = some (klG N g) := by
  obtain ⟨n, hn⟩ := Try.tsizeT
  exact keyOf_tr Try.underlying26 (by decide) (by decide) rfl rfl rfl rfl Try.und_a7 Try.und_u64K Try.und_int Try.size_trK Try.size_a7 Try.size_u64K Try.size_intK Try.keyT_tr hn hN (fun j hj => WalkArith.wf_u64 (by have := hg j hj; omega))
theorem klG_ne {N : Int} {g : Nat → Nat} (hN : (Lit.int .i64 N).wf = true) (hg : W64 g) {l : List Nat} (hl : Tf l) (h : mt N g l = false) : klG N g ≠ klT l := fun e => by
  have := keyT.inj (klG_of hN hg) (e ▸ klT_of hl)
  simp only [Value.agg.injEq] at this
  rw [mt_of this] at h
  cases h

set_option maxHeartbeats 1000000 in
set_option maxRecDepth 100000 in
theorem tnew_bad (n : Int) (h : ¬ (1 ≤ n ∧ n ≤ 64)) (w : World) : Calls Try.prog 30 #[.int .i64 n] w fun e w' => e = .returned (.tuple #[.pointer none, .int .i64 6]) ∧ w = w' := by
  have hs : Hid (Calls Try.prog 35 #[.int .i64 n] w fun e w' => e = .returned (.bool false) ∧ w = w') := by
    refine (isSize_any n w).mono ?_
    rintro e w1 ⟨rfl, rfl⟩
    exact ⟨by rw [decide_eq_false (by omega)], rfl⟩
  go_enter Try.func30, Try.ntmps30
  go_wp2_with fail
  refine hs.out.mono ?_
  rintro e w1 ⟨rfl, rfl⟩
  go_wp2_with fail
  go_ret2
  exact ⟨rfl, rfl⟩

set_option maxHeartbeats 2000000 in
set_option maxRecDepth 100000 in
theorem ttat_bad {base : Nat} {w : World} {b mb n : Nat} {vl : Value} {M : List (List Nat)} {D : DataW Unit} (h : TB base w b mb n vl M D) {i : Int} (hi : i < 0 ∨ (M.length : Int) ≤ i) : Calls Try.prog 56 #[.pointer (some ⟨b, 0, none⟩), .int .i64 i] w fun e w' => e = .returned (.tuple #[trZ, .bool false]) ∧ Below w.heap.size w w' := by
  obtain ⟨a, cap, rfl⟩ := own_shape h.row
  obtain ⟨w0, hw0⟩ : ∃ w0, w0 = w.alloc (.cells (trC 0 (fun _ => 0)) 26) := ⟨_, rfl⟩
  have hb0 : Below w.heap.size w w0 := by rw [hw0]; exact below_new _ _
  have HT : Hid (TB base w0 b mb n (.slice a M.length cap) M D) := h.below hb0
  have h3 : w0.cell? ⟨b, 3, none⟩ = some (.slice a M.length cap) := cell_at HT.out.box rfl
  have HW : Hid (w0 = w.alloc (.cells (trC 0 (fun _ => 0)) 26)) := hw0
  have HZ1 : Hid (TrAt w0 w.heap.size 0 (fun _ => 0)) := by show TrAt _ _ _ _; rw [hw0]; exact heap_last _ _
  have HB : Hid (Below w.heap.size w w0) := hb0
  obtain ⟨c0, c1, c2, c3, c4, c5, c6, c7⟩ := (HZ1.out).gets
  have f0 := (HZ1.out).frozen 0
  have f1 := (HZ1.out).frozen 1
  have f2 := (HZ1.out).frozen 2
  have f3 := (HZ1.out).frozen 3
  have f4 := (HZ1.out).frozen 4
  have f5 := (HZ1.out).frozen 5
  have f6 := (HZ1.out).frozen 6
  have f7 := (HZ1.out).frozen 7
  clear h hw0 hb0
  by_cases hneg : i < 0
  · have hd : decide (i < 0) = true := decide_eq_true hneg
    go_enter Try.func56, Try.ntmps56
    go_wp2_with fail
    rw [show (#[Value.int .i64 0, .int .u64 0, .int .u64 0, .int .u64 0, .int .u64 0, .int .u64 0, .int .u64 0, .int .u64 0] : Array Value) = trC 0 (fun _ => 0) from rfl, ← HW.out]
    refine (tmade_any HT.out).mono ?_
    rintro e w1 ⟨rfl, rfl⟩
    go_wp2_with fail
    exact bodyPost_ret (results_tr_tmp rfl rfl (put8_at HZ1.out)) rfl ⟨rfl, put8_below HB.out (Nat.le_refl _)⟩
  · have hd : decide (i < 0) = false := decide_eq_false hneg
    have hge : (M.length : Int) ≤ i := by omega
    have hd2 : decide ((M.length : Int) ≤ i) = true := decide_eq_true hge
    go_enter Try.func56, Try.ntmps56
    go_wp2_with fail
    rw [show (#[Value.int .i64 0, .int .u64 0, .int .u64 0, .int .u64 0, .int .u64 0, .int .u64 0, .int .u64 0, .int .u64 0] : Array Value) = trC 0 (fun _ => 0) from rfl, ← HW.out]
    refine (tmade_any HT.out).mono ?_
    rintro e w1 ⟨rfl, rfl⟩
    go_wp2_with fail
    exact bodyPost_ret (results_tr_tmp rfl rfl (put8_at HZ1.out)) rfl ⟨rfl, put8_below HB.out (Nat.le_refl _)⟩

set_option maxHeartbeats 2000000 in
set_option maxRecDepth 100000 in
theorem tfind_gen {base : Nat} {w : World} {b mb n : Nat} {vl : Value} {M : List (List Nat)} {D : DataW Unit} (h : TB base w b mb n vl M D) {N : Int} {g : Nat → Nat} {k : Lit} (hkey : keyOf Try.prog 26 (.agg (trC N g)) = some k) {p : Int} {q : Bool} (hhas : Maps.has D k = q) (hnum : D.atKey k (.lit (.int .i64 0)) = .lit (.int .i64 p)) :
    Calls Try.prog 54 #[.pointer (some ⟨b, 0, none⟩), .agg (trC N g)] w fun e w' => e = .returned (.tuple #[.int .i64 p, .bool q]) ∧ Below w.heap.size w w' := by
  obtain ⟨p0, p1, p2, p3, p4, p5, p6, hcs⟩ : ∃ p0 p1 p2 p3 p4 p5 p6 : Int, trC N g = #[.int .i64 N, .int .u64 p0, .int .u64 p1, .int .u64 p2, .int .u64 p3, .int .u64 p4, .int .u64 p5, .int .u64 p6] := ⟨_, _, _, _, _, _, _, rfl⟩
  rw [hcs] at hkey ⊢
  obtain ⟨w0, hw0⟩ : ∃ w0, w0 = w.alloc (.cells #[.int .i64 N, .int .u64 p0, .int .u64 p1, .int .u64 p2, .int .u64 p3, .int .u64 p4, .int .u64 p5, .int .u64 p6] 26) := ⟨_, rfl⟩
  have hb0 : Below w.heap.size w w0 := by rw [hw0]; exact below_new _ _
  have HT1 : Hid (TB base w0 b mb n vl M D) := h.below hb0
  have HW : Hid (w0 = w.alloc (.cells #[.int .i64 N, .int .u64 p0, .int .u64 p1, .int .u64 p2, .int .u64 p3, .int .u64 p4, .int .u64 p5, .int .u64 p6] 26)) := hw0
  have HL1 : Hid (w0.heap[w.heap.size]? = some (.cells #[.int .i64 N, .int .u64 p0, .int .u64 p1, .int .u64 p2, .int .u64 p3, .int .u64 p4, .int .u64 p5, .int .u64 p6] 26 (0, 0))) := by show _ = _; rw [hw0]; exact heap_last _ _
  have HB : Hid (Below w.heap.size w w0) := hb0
  have d0 : w0.drew.cell? ⟨w.heap.size, 0, none⟩ = some (.int .i64 N) := cell_at HL1.out rfl
  have d1 : w0.drew.cell? ⟨w.heap.size, 1, none⟩ = some (.int .u64 p0) := cell_at HL1.out rfl
  have d2 : w0.drew.cell? ⟨w.heap.size, 2, none⟩ = some (.int .u64 p1) := cell_at HL1.out rfl
  have d3 : w0.drew.cell? ⟨w.heap.size, 3, none⟩ = some (.int .u64 p2) := cell_at HL1.out rfl
  have d4 : w0.drew.cell? ⟨w.heap.size, 4, none⟩ = some (.int .u64 p3) := cell_at HL1.out rfl
  have d5 : w0.drew.cell? ⟨w.heap.size, 5, none⟩ = some (.int .u64 p4) := cell_at HL1.out rfl
  have d6 : w0.drew.cell? ⟨w.heap.size, 6, none⟩ = some (.int .u64 p5) := cell_at HL1.out rfl
  have d7 : w0.drew.cell? ⟨w.heap.size, 7, none⟩ = some (.int .u64 p6) := cell_at HL1.out rfl
  have t2 : w0.drew.cell? ⟨b, 2, none⟩ = some (.map (some mb)) := cell_at HT1.out.box rfl
  have hlk : (Instr.lookup 99 (.map (some mb)) (.agg #[.int .i64 N, .int .u64 p0, .int .u64 p1, .int .u64 p2, .int .u64 p3, .int .u64 p4, .int .u64 p5, .int .u64 p6]) true).run Try.prog w0.drew = .ok (.tuple #[.int .i64 p, .bool q]) w0.drew := by
    obtain ⟨v, ps, h1, h2⟩ := HT1.out.mp.drew.look_ok keyT Try.und_mapT (Try.zero_int _) (plainElem_int Try.und_int (by decide)) hkey
    rw [hnum] at h2
    obtain ⟨c, rfl, h3, _⟩ := plainElem_int_inv Try.und_int h2
    simp only [Prod.mk.injEq, DataW.lit.injEq, Lit.int.injEq, true_and] at h3
    obtain ⟨h3, _⟩ := h3
    rw [h1, hhas, h3]
  clear h hw0 hb0 hcs hkey hhas hnum
  go_enter Try.func54, Try.ntmps54
  go_wp2_with fail
  rw [← HW.out]
  refine (tmade_any HT1.out).mono ?_
  rintro e w1 ⟨rfl, rfl⟩
  go_wp2_with fail
  go_region
  all_goals (
    go_wp2_with fail
    go_ret2
    exact ⟨rfl, HB.out.drew⟩)

/-- What Find answers. -/
theorem tfind_old {base : Nat} {w : World} {b mb n : Nat} {vl : Value} {M : List (List Nat)} {D : DataW Unit} (h : TB base w b mb n vl M D) {N : Int} {g : Nat → Nat} {l : List Nat} {p : Nat} (hp : M[p]? = some l) (h1 : mt N g l = true) (h2 : ∀ (q : Nat) (l' : List Nat), q < p → M[q]? = some l' → mt N g l' = false) :
    Calls Try.prog 54 #[.pointer (some ⟨b, 0, none⟩), .agg (trC N g)] w fun e w' => e = .returned (.tuple #[.int .i64 (p : Nat), .bool true]) ∧ Below w.heap.size w w' := by
  obtain ⟨hm, hi⟩ := first_idx hp h1 h2
  have hl := (h.all l hm).1
  have hk : keyOf Try.prog 26 (.agg (trC N g)) = some (klT l) := by rw [mt_eq h1]; exact klT_of hl
  refine tfind_gen h hk ?_ ?_
  · rw [h.mi.has l hl]; exact decide_eq_true hm
  · rw [h.mi.num l hl hm, hi]
theorem tfind_no {base : Nat} {w : World} {b mb n : Nat} {vl : Value} {M : List (List Nat)} {D : DataW Unit} (h : TB base w b mb n vl M D) (hD : NK D M) {N : Int} {g : Nat → Nat} (hN : (Lit.int .i64 N).wf = true) (hg : W64 g) (h1 : ∀ l ∈ M, mt N g l = false) :
    Calls Try.prog 54 #[.pointer (some ⟨b, 0, none⟩), .agg (trC N g)] w fun e w' => e = .returned (.tuple #[.int .i64 0, .bool false]) ∧ Below w.heap.size w w' := by
  have hh := hD (klG N g) (fun l hl => klG_ne hN hg (h.all l hl).1 (h1 l hl))
  exact tfind_gen h (klG_of hN hg) hh (atKey_of_not_has hh _)
end Go.Proofs.Ytihjhkbbpphocaa
