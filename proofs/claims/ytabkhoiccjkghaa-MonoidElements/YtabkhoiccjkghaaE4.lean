/- trans.Table in memory: New, Len, At, Put. -/
import Derived.Test.YtabkhoiccjkghaaE3
import Derived.Test.YtabkhoiccjkghaaE1
import Derived.Deep.AppendLies
import Derived.Deep.RegionLaw
import Derived.Deep.DeepCutAuto
namespace Go.Proofs.Ytabkhoiccjkghaa
open Go Go.RowKit Go.Lib Go.Maps
set_option linter.unusedVariables false

/-- All blocks but those of S stay. -/
structure Only (S : Nat → Prop) (w w' : World) : Prop where
  zero : Below 0 w w'
  block : ∀ j, j < w.heap.size → ¬ S j → w'.heap[j]? = w.heap[j]?
theorem Only.of {S : Nat → Prop} {w w' : World} (h : Below w.heap.size w w') : Only S w w' := ⟨h.mono (Nat.zero_le _), fun j hj _ => h.block j hj⟩
theorem Only.trans {S : Nat → Prop} {a b c : World} (h : Only S a b) (g : Only S b c) : Only S a c :=
  ⟨h.zero.trans g.zero, fun j hj hs => (g.block j (Nat.lt_of_lt_of_le hj h.zero.size) hs).trans (h.block j hj hs)⟩
theorem Only.size {S : Nat → Prop} {w w' : World} (h : Only S w w') : w.heap.size ≤ w'.heap.size := h.zero.size
theorem Only.below {S : Nat → Prop} {B : Nat} {w0 w w' : World} (h : Only S w w') (hb : Below B w0 w) (hB : B ≤ w0.heap.size) (hS : ∀ j, S j → B ≤ j) : Below B w0 w' :=
  ⟨h.zero.os.trans hb.os, h.zero.tape.trans hb.tape, h.zero.output.trans hb.output, Nat.le_trans hb.size h.size, fun j hj => (h.block j (by have := hb.size; omega) (fun q => by have := hS j q; omega)).trans (hb.block j hj)⟩
theorem Only.mono {S T : Nat → Prop} {w w' : World} (h : Only S w w') (hS : ∀ j, j < w.heap.size → S j → T j) : Only T w w' := ⟨h.zero, fun j hj ht => h.block j hj (fun q => ht (hS j hj q))⟩
theorem Only.grown {S : Nat → Prop} {w w' : World} {r : Option Nat} (h : w.grownBy w' r) (hS : ∀ j, r = some j → S j) : Only S w w' :=
  ⟨(Below.refl 0 w).grown h (by omega) (fun b hb => Nat.zero_le _), fun j hj hs => h.block j hj (fun e => hs (hS j e.symm))⟩
theorem Only.set {S : Nat → Prop} {w w' : World} (h : Only S w w') {b o : Nat} {v : Value} (hb : S b) : Only S w (w'.setCell ⟨b, o, none⟩ v) :=
  ⟨h.zero.setCell (p := ⟨b, o, none⟩) (Nat.zero_le _) v, fun j hj hs => (heap_set_other (fun e => hs (by rw [e]; exact hb))).trans (h.block j hj hs)⟩
theorem own_only {S : Nat → Prop} {w w' : World} {base : Nat} {e : TypeId} {size n : Nat} {v : Value} {xs : List Value} (h : w.ownsRow base e size v n xs) (g : Only S w w') (hs : ∀ b, v.ownBlock = some b → ¬ S b) : w'.ownsRow base e size v n xs :=
  own_keep h (fun b cur hb hc => g.block b (Array.getElem?_eq_some_iff.1 hc).1 (hs b hb))

/-- A list of transformations, cell by cell. -/
def tCs (M : List (List Nat)) : List Value := M.flatMap fun l => (tC l).toList
theorem tC_len (l : List Nat) : (tC l).toList.length = 8 := rfl
theorem tCs_len : ∀ M : List (List Nat), (tCs M).length = M.length * 8
  | [] => rfl
  | a :: M => by
    have := tCs_len M
    unfold tCs at this ⊢
    rw [List.flatMap_cons, List.length_append, this, tC_len, List.length_cons]
    omega
theorem tCs_at : ∀ (M : List (List Nat)) (i : Nat) (l : List Nat), M[i]? = some l → ∀ j, j < 8 → (tCs M)[i * 8 + j]? = (tC l).toList[j]?
  | [], i, l, h, j, hj => by simp at h
  | a :: M, 0, l, h, j, hj => by
    simp at h
    subst h
    unfold tCs
    rw [List.flatMap_cons, List.getElem?_append_left (by rw [tC_len]; omega)]
    congr 1
    omega
  | a :: M, i + 1, l, h, j, hj => by
    have := tCs_at M i l (by simpa using h) j hj
    unfold tCs at this ⊢
    rw [List.flatMap_cons, List.getElem?_append_right (by rw [tC_len]; omega), tC_len, ← this]
    congr 1
    omega
theorem tCs_snoc (M : List (List Nat)) (l : List Nat) : tCs (M ++ [l]) = tCs M ++ (tC l).toList := by simp [tCs]

/-- A table that lies in memory: its block, its map's, its list. -/
structure TB (base : Nat) (w : World) (b mb n : Nat) (vl : Value) (M : List (List Nat)) (D : DataW Unit) : Prop where
  box : w.heap[b]? = some (.cells #[.pointer (some ⟨b, 0, none⟩), .int .i64 n, .map (some mb), vl] 101 (0, 0))
  mp : w.ownsMap Try.prog 42 (plainElem Try.prog 3) mb M.length D
  mi : MI klT Tf D M
  row : w.ownsRow base 42 8 vl M.length (tCs M)
  lob : base ≤ b
  lom : base ≤ mb
  all : ∀ l ∈ M, Tf l ∧ l.length = n
  most : M.length ≤ 512
/-- The table's blocks. -/
def TS (b mb : Nat) (vl : Value) (j : Nat) : Prop := j = b ∨ j = mb ∨ vl.ownBlock = some j
theorem TB.keep {base : Nat} {w w' : World} {b mb n : Nat} {vl : Value} {M : List (List Nat)} {D : DataW Unit} (h : TB base w b mb n vl M D) (hk : ∀ j, TS b mb vl j → j < w.heap.size → w'.heap[j]? = w.heap[j]?) : TB base w' b mb n vl M D :=
  ⟨(hk b (.inl rfl) (Array.getElem?_eq_some_iff.1 h.box).1).trans h.box, map_keep h.mp (hk mb (.inr (.inl rfl)) h.mp.lt), h.mi, own_keep h.row (fun j cur hj hc => hk j (.inr (.inr hj)) (Array.getElem?_eq_some_iff.1 hc).1), h.lob, h.lom, h.all, h.most⟩
theorem TB.below {base : Nat} {w w' : World} {b mb n : Nat} {vl : Value} {M : List (List Nat)} {D : DataW Unit} (h : TB base w b mb n vl M D) (hb : Below w.heap.size w w') : TB base w' b mb n vl M D := h.keep (fun j _ hj => hb.block j hj)
theorem TB.only {base : Nat} {w w' : World} {b mb n : Nat} {vl : Value} {M : List (List Nat)} {D : DataW Unit} {S : Nat → Prop} (h : TB base w b mb n vl M D) (hb : Only S w w') (hs : ∀ j, TS b mb vl j → ¬ S j) : TB base w' b mb n vl M D := h.keep (fun j hj hl => hb.block j hl (hs j hj))
theorem TB.ts {base : Nat} {w : World} {b mb n : Nat} {vl : Value} {M : List (List Nat)} {D : DataW Unit} (h : TB base w b mb n vl M D) {j : Nat} (hj : TS b mb vl j) : base ≤ j ∧ j < w.heap.size := by
  rcases hj with rfl | rfl | hj
  · exact ⟨h.lob, (Array.getElem?_eq_some_iff.1 h.box).1⟩
  · exact ⟨h.lom, h.mp.lt⟩
  · exact h.row.lt j hj
theorem cell_at {w : World} {b j : Nat} {arr : Array Value} {t : TypeId} {f : Nat × Nat} {v : Value} (h : w.heap[b]? = some (.cells arr t f)) (hv : arr[j]? = some v) : w.cell? ⟨b, j, none⟩ = some v := by rw [cell_of_row _ _ _ _ _ _ h]; exact hv

theorem eq_ptr (a : Addr) (w : World) : (binOp .eql 67 (.pointer (some a)) (.pointer (some a))).run Try.prog w = .ok (.bool true) w := by
  simp only [binOp]
  simp only [Op.equal, Op.maxDepth]
  rw [show (10000 : Nat) = 9999 + 1 from rfl, Op.equalIn]
  simp [Sem.run_bind, run_underlying Try.underlying67, sameAddr]

set_option maxHeartbeats 1000000 in
set_option maxRecDepth 100000 in
theorem tmade_any {base : Nat} {w : World} {b mb n : Nat} {vl : Value} {M : List (List Nat)} {D : DataW Unit} (h : TB base w b mb n vl M D) : Calls Try.prog 51 #[.pointer (some ⟨b, 0, none⟩)] w fun e w' => e = .returned (.bool true) ∧ w = w' := by
  have h0 : w.cell? ⟨b, 0, none⟩ = some (.pointer (some ⟨b, 0, none⟩)) := cell_at h.box rfl
  have he := eq_ptr ⟨b, 0, none⟩ w
  clear h
  go_enter Try.func51, Try.ntmps51
  go_wp2_with fail
  go_ret
  exact ⟨rfl, rfl⟩

set_option maxHeartbeats 1000000 in
set_option maxRecDepth 100000 in
theorem tlen_any {base : Nat} {w : World} {b mb n : Nat} {vl : Value} {M : List (List Nat)} {D : DataW Unit} (h : TB base w b mb n vl M D) : Calls Try.prog 59 #[.pointer (some ⟨b, 0, none⟩)] w fun e w' => e = .returned (.int .i64 (M.length : Nat)) ∧ w = w' := by
  obtain ⟨a, cap, rfl⟩ := own_shape h.row
  have h3 : w.cell? ⟨b, 3, none⟩ = some (.slice a M.length cap) := cell_at h.box rfl
  have H : Hid (TB base w b mb n (.slice a M.length cap) M D) := h
  clear h
  go_enter Try.func59, Try.ntmps59
  go_wp2_with fail
  refine (tmade_any H.out).mono ?_
  rintro e w1 ⟨rfl, rfl⟩
  go_wp2_with fail
  go_ret
  exact ⟨rfl, rfl⟩

set_option maxHeartbeats 1000000 in
set_option maxRecDepth 100000 in
theorem tnew_any (n : Nat) (h1 : 1 ≤ n) (h2 : n ≤ 64) (w : World) : Calls Try.prog 56 #[.int .i64 n] w fun e w' => e = .returned (.tuple #[.pointer (some ⟨w.heap.size + 1, 0, none⟩), .int .i64 0]) ∧ Below w.heap.size w w' ∧ TB w.heap.size w' (w.heap.size + 1) w.heap.size n (.slice none 0 0) [] (.map []) := by
  have hs : Hid (Calls Try.prog 69 #[.int .i64 n] w fun e w' => e = .returned (.bool true) ∧ w = w') := by
    refine (isSize_any n w).mono ?_
    rintro e w1 ⟨rfl, rfl⟩
    exact ⟨by rw [decide_eq_true (by omega)], rfl⟩
  have hmm := @run_makeMap Try.prog
  have HT : Hid (TB w.heap.size ((w.alloc (.map #[] 0)).alloc (.cells #[.pointer (some ⟨w.heap.size + 1, 0, none⟩), .int .i64 n, .map (some w.heap.size), .slice none 0 0] 101)) (w.heap.size + 1) w.heap.size n (.slice none 0 0) [] (.map [])) := by
    have e : (w.alloc (.map #[] 0)).heap.size = w.heap.size + 1 := by simp
    refine ⟨?_, ?_, MI.empty _ _, World.ownsRow_nil _ _ _ _, by omega, Nat.le_refl _, fun l hl => by simp at hl, by simp⟩
    · rw [← e]
      exact heap_last _ _
    · exact (World.ownsMap_made w _ _ _).alloc _
  have HB : Hid (Below w.heap.size w ((w.alloc (.map #[] 0)).alloc (.cells #[.pointer (some ⟨w.heap.size + 1, 0, none⟩), .int .i64 n, .map (some w.heap.size), .slice none 0 0] 101))) := go_on (below_new _ _) (below_new _ _)
  go_enter Try.func56, Try.ntmps56
  go_wp2_with fail
  refine hs.out.mono ?_
  rintro e w1 ⟨rfl, rfl⟩
  go_wp2_with fail
  go_ret2
  exact ⟨rfl, HB.out, HT.out⟩

theorem Try.info_trL : (Try.prog.info? 42).map (fun i => (i.zero, i.size, i.bytes)) = some (some (.agg (trC 0 fun _ => 0)), 8, 64) := by kernel_rfl
/-- A transformation of a list, as it lies among the others. -/
theorem TB.cells {base : Nat} {w : World} {b mb n : Nat} {a : Option Addr} {c : Nat} {M : List (List Nat)} {D : DataW Unit} (h : TB base w b mb n (.slice a M.length c) M D) {i : Nat} {l : List Nat} (hi : M[i]? = some l) : ∃ g, a = some ⟨g, 0, none⟩ ∧ g < w.heap.size ∧ ∀ j, j < 8 → w.cell? ⟨g, i * 8 + j, none⟩ = (tC l)[j]? := by
  have hil := (List.getElem?_eq_some_iff.1 hi).1
  have hr := h.row
  rcases h.row.2 with ⟨h1, h0⟩ | ⟨g, cap, cur, h1, r⟩
  · omega
  · simp only [Value.slice.injEq] at h1
    obtain ⟨rfl, _, rfl⟩ := h1
    refine ⟨g, rfl, (Array.getElem?_eq_some_iff.1 r.2.1).1, fun j hj => ?_⟩
    rw [hr.cellAt (i * 8 + j) (by omega), tCs_at M i l hi j hj]
    simp
theorem lv_row {w : World} {g o : Nat} {l : List Nat} (h : ∀ j, j < 8 → w.cell? ⟨g, o + j, none⟩ = (tC l)[j]?) : (loadVar 42 ⟨g, o, none⟩).run Try.prog w = .ok (.agg (tC l)) w := by
  have hl := run_loadCells_list (P := Try.prog) w ⟨g, o, none⟩ (tC l).toList (fun j v hv => by
    have hadd : (⟨g, o, none⟩ : Addr).add j = ⟨g, o + j, none⟩ := by unfold Addr.add; split <;> simp_all
    have hj : j < 8 := by
      have := (List.getElem?_eq_some_iff.1 hv).1
      rwa [tC_len] at this
    rw [hadd, h j hj]
    simpa using hv)
  have hagg := agg_of (b := true) Try.underlying42 rfl w
  rw [tC_len] at hl
  simp [loadVar, Sem.run_bind, hagg, hl]
section
variable {ops : Array Oper} {rest : List Oper} {o : Oper} {a : Act} {w : World} {Q : Exit → Act → World → Prop}
theorem ex_load_at {ev : Operand → Value} {o : Oper} {ty : TypeId} {x : Operand} {ad : Addr} {w : World} {cs : Array Value} (ho : o.op = .load ty x) (hx : ev x = .pointer (some ad)) (hl : (loadVar ty ad).run Try.prog w = .ok (.agg cs) w) :
    (execOp ev o).run Try.prog w = .ok (.value (.agg cs)) w := by
  unfold execOp
  simp only [ho, hx, Instr.loadAt, Instr.sureAddr, Sem.run_bind, Sem.run_pure, Result.andThen_ok, hl]
theorem wa_load {x : Operand} {g p : Nat} {l : List Nat} (ho : o.op = .load 42 x) (hx : a.eval x = .pointer (some ⟨g, p, none⟩)) (hg : ∀ j, j < 8 → w.cell? ⟨g, p + j, none⟩ = (tC l)[j]?) (hw : Region.wanted o (yielded ops a.tmps) = true) (h : wpList Try.prog ops Q rest (a.put o.dst (.agg (tC l))) w) : wpList Try.prog ops Q (o :: rest) a w :=
  wl_yield (ex_load_at ho hx (lv_row hg)) hw h
end

set_option maxHeartbeats 2000000 in
set_option maxRecDepth 100000 in
theorem ttat_any {base : Nat} {w : World} {b mb n : Nat} {vl : Value} {M : List (List Nat)} {D : DataW Unit} (h : TB base w b mb n vl M D) {i : Nat} {l : List Nat} (hi : M[i]? = some l) : Calls Try.prog 34 #[.pointer (some ⟨b, 0, none⟩), .int .i64 i] w fun e w' => e = .returned (.tuple #[.agg (tC l), .bool true]) ∧ Below w.heap.size w w' := by
  have hil := (List.getElem?_eq_some_iff.1 hi).1
  obtain ⟨a, cap, rfl⟩ := own_shape h.row
  obtain ⟨g, rfl, hg, hc⟩ := h.cells hi
  obtain ⟨w0, hw0⟩ : ∃ w0, w0 = w.alloc (.cells (trC 0 (fun _ => 0)) 42) := ⟨_, rfl⟩
  have hb0 : Below w.heap.size w w0 := by rw [hw0]; exact below_new _ _
  have HT : Hid (TB base w0 b mb n (.slice (some ⟨g, 0, none⟩) M.length cap) M D) := h.below hb0
  have h3 : w0.cell? ⟨b, 3, none⟩ = some (.slice (some ⟨g, 0, none⟩) M.length cap) := cell_at HT.out.box rfl
  have HC : Hid (∀ j, j < 8 → w0.cell? ⟨g, i * 8 + j, none⟩ = (tC l)[j]?) := fun j hj => by rw [below_cellJ hb0 hg]; exact hc j hj
  have HW : Hid (w0 = w.alloc (.cells (trC 0 (fun _ => 0)) 42)) := hw0
  have HR : Hid (TrAt w0 w.heap.size 0 (fun _ => 0)) := by show TrAt _ _ _ _; rw [hw0]; exact heap_last _ _
  have HB : Hid (Below w.heap.size w w0) := hb0
  have hiI : ¬ (M.length : Int) ≤ i := by omega
  have hmo : M.length ≤ 512 := h.most
  clear h hi hc hw0 hb0
  go_enter Try.func34, Try.ntmps34
  go_wp2_with fail
  rw [show (#[Value.int .i64 0, .int .u64 0, .int .u64 0, .int .u64 0, .int .u64 0, .int .u64 0, .int .u64 0, .int .u64 0] : Array Value) = trC 0 (fun _ => 0) from rfl, ← HW.out]
  refine (tmade_any HT.out).mono ?_
  rintro e w1 ⟨rfl, rfl⟩
  have hst : (storeCells ⟨w.heap.size, 0, none⟩ (tC l).toList 0).run Try.prog w0 = .ok () (w0.setRow w.heap.size (tC l)) := st_tr HR.out
  go_wp2_with (refine wa_load rfl rfl HC.out rfl ?_)
  exact bodyPost_ret (results_tr_tmp rfl rfl (TrAt.row HR.out)) rfl ⟨rfl, below_row HB.out (Nat.le_refl _)⟩

/-- A new transformation in the table. -/
theorem TB.new {base : Nat} {w w5 w7 : World} {b mb n : Nat} {vl vl' : Value} {M : List (List Nat)} {D : DataW Unit} {l : List Nat} {o : Obj} (h : TB base w b mb n vl M D) (hl : Tf l) (hn : l.length = n) (hm : l ∉ M) (hs : M.length < 512)
    (hmo : w5.ownsMap Try.prog 42 (plainElem Try.prog 3) mb (M.length + 1) (D.put (klT l) (.lit (.int .i64 (M.length : Nat))))) (hmg : w.grownBy w5 (some mb))
    (ho : w7.ownsRow base 42 8 vl' (M.length + 1) (tCs M ++ (tC l).toList)) (hg : (w5.alloc o).grownBy w7 vl.ownBlock) :
    w7.heap[b]? = some (.cells #[.pointer (some ⟨b, 0, none⟩), .int .i64 n, .map (some mb), vl] 101 (0, 0)) ∧
    TB base (w7.setCell ⟨b, 3, none⟩ vl') b mb n vl' (M ++ [l]) (D.put (klT l) (.lit (.int .i64 (M.length : Nat)))) ∧ Only (TS b mb vl) w (w7.setCell ⟨b, 3, none⟩ vl') := by
  obtain ⟨es, clock, hmb⟩ := map_blk h.mp
  obtain ⟨es5, clock5, hmb5⟩ := map_blk hmo
  have hbl := (Array.getElem?_eq_some_iff.1 h.box).1
  have hbm : b ≠ mb := fun e => by have := h.box; rw [e, hmb] at this; cases this
  have hs5 : w.heap.size ≤ w5.heap.size := (Only.grown (S := fun _ => True) hmg (fun _ _ => trivial)).size
  have hs7 : w5.heap.size + 1 ≤ w7.heap.size := by have := (Only.grown (S := fun _ => True) hg (fun _ _ => trivial)).size; simpa using this
  have k : ∀ j, j < w.heap.size → j ≠ mb → vl.ownBlock ≠ some j → w7.heap[j]? = w.heap[j]? := fun j hj h1 h2 => by
    rw [hg.block j (by simp; omega) (fun e => h2 e.symm), (below_new w5 o).block j (by omega)]
    exact hmg.block j hj (by simpa using h1)
  have hvb : vl.ownBlock ≠ some b := fun e => by
    obtain ⟨_, cur, hc⟩ := own_blk h.row e
    rw [h.box] at hc
    injection hc with hc
    injection hc with _ hc _
    exact absurd hc (by decide)
  have hvm5 : ∀ j, vl.ownBlock = some j → j ≠ mb := fun j e q => by
    obtain ⟨_, cur, hc⟩ := own_blk h.row e
    rw [q, hmb] at hc
    cases hc
  have box7 := (k b hbl hbm hvb).trans h.box
  have m7 : w7.ownsMap Try.prog 42 (plainElem Try.prog 3) mb (M.length + 1) (D.put (klT l) (.lit (.int .i64 (M.length : Nat)))) := by
    refine map_keep hmo ?_
    rw [hg.block _ (by have := hmo.lt; simp; omega) (fun e => hvm5 mb e.symm rfl)]
    exact (below_new w5 o).block _ hmo.lt
  refine ⟨box7, ⟨?_, ?_, ?_, ?_, h.lob, h.lom, ?_, ?_⟩, ?_⟩
  · exact heap_set box7
  · rw [List.length_append]
    refine map_keep m7 (heap_set_other (fun e => hbm e.symm))
  · exact h.mi.put (fun a b ha hb e => klT_inj ha hb e) h.mp.isMap (klT_key l) hl hm
  · rw [tCs_snoc, List.length_append]
    refine own_keep ho (fun j cur hj hc => heap_set_other (fun e => ?_))
    rw [e, box7] at hc
    injection hc with hc
    injection hc with _ hc _
    exact absurd hc (by decide)
  · intro x hx
    rcases List.mem_append.1 hx with hx | hx
    · exact h.all x hx
    · simp at hx; subst hx; exact ⟨hl, hn⟩
  · simp; omega
  · refine ⟨?_, ?_⟩
    · exact (((Below.refl 0 w).grown hmg (by omega) (fun _ _ => Nat.zero_le _)).alloc (Nat.zero_le _) o |>.grown hg (by omega) (fun _ _ => Nat.zero_le _)).setCell (p := ⟨b, 3, none⟩) (Nat.zero_le _) _
    · intro j hj hS
      unfold TS at hS
      rw [heap_set_other (fun e => hS (.inl e))]
      exact k j hj (fun e => hS (.inr (.inl e))) (fun e => hS (.inr (.inr e)))
end Go.Proofs.Ytabkhoiccjkghaa
