/- Proved: eggboxlaw14.MonoidMade answers true at every automaton's data a and all words u and v (P14.9, P14.10): where Build makes a monoid and the words are over its letters, two words have one element just if they lead from each state to the same one, Trans of a product is Compose of the two, and Accept says whether the word is accepted; and the law's own automaton has the monoid that the law names. No condition. -/
import Derived.Test.YthmnoepjkobcmabE25
import Derived.Test.YthmnoepjkobcmabE26
import Derived.Test.YthmnoepjkobcmabE28
import Derived.Test.YthmnoepjkobcmabE29
import Derived.SizedLaws
namespace Go.Proofs.Ythmnoepjkobcmab.monoidMade
open Go Go.ChangeShapes Go.WideShapes Go.ChangeAt Go.RowKit Go.Lib
open Go.ChangeMaps (open_string shut_string)
set_option linter.unusedVariables false
attribute [-instance] List.instBEq instBEqProd

/-- Do both words lead from each of the first n states to the same one? -/
def al (A : Aut) (u v : List Nat) (n : Nat) : Bool := (List.range n).all fun s => goN A s u == goN A s v
theorem al_succ (A : Aut) (u v : List Nat) (n : Nat) : al A u v (n + 1) = (al A u v n && (goN A n u == goN A n v)) := by
  unfold al
  rw [List.range_succ, List.all_append]
  simp
theorem al_act (A : Aut) (u v : List Nat) : al A u v A.ac.length = decide (act A u = act A v) := by
  rw [Bool.eq_iff_iff, decide_eq_true_iff]
  unfold al
  rw [List.all_eq_true]
  constructor
  · intro h
    exact tb_congr (fun i hi => by have := h i (List.mem_range.2 hi); simpa using this)
  · intro h s hs
    have hs' := List.mem_range.1 hs
    have := congrArg (fun l => im l s) h
    simp only [act_im A _ hs'] at this
    simpa using this
theorem beq_cast (a b : Nat) : ((a : Int) == (b : Int)) = (a == b) := by
  rw [Bool.eq_iff_iff, beq_iff_eq, beq_iff_eq]
  omega
/-- What the walk keeps: transformations in blocks of their own, and the automaton. -/
structure SK (L : List (Nat × List Nat)) (W : World) (arr : Array Value) (w : World) : Prop where
  k : KP L W w
  blk : w.heap[W.heap.size]? = some (.cells arr 25 (0, 0))
theorem SK.call {L : List (Nat × List Nat)} {W w w' : World} {arr : Array Value} (h : SK L W arr w) (hb : Below w.heap.size w w') : SK L W arr w' :=
  ⟨h.k.call hb, (hb.block _ (Array.getElem?_eq_some_iff.1 h.blk).1).trans h.blk⟩
theorem SK.drew {L : List (Nat × List Nat)} {W w : World} {arr : Array Value} (h : SK L W arr w) : SK L W arr w.drew := h.call (Below.refl _ _).drew
theorem SK.new {L : List (Nat × List Nat)} {W w : World} {arr : Array Value} (h : SK L W arr w) (l : List Nat) : SK ((w.heap.size, l) :: L) W arr (w.alloc (.cells (tC l) 40)) :=
  ⟨h.k.new l, (heap_allo (Array.getElem?_eq_some_iff.1 h.blk).1 _).trans h.blk⟩
theorem SK.row {L : List (Nat × List Nat)} {W w : World} {arr : Array Value} (h : SK L W arr w) : ∀ q, w.cell? ⟨W.heap.size, q, none⟩ = arr[q]? := fun q => cell_of_row _ _ _ _ _ _ h.blk
theorem lv_auto {w : World} {b : Nat} {x y z : Value} (h : w.heap[b]? = some (.cells #[x, y, z] 25 (0, 0))) : (loadVar 25 ⟨b, 0, none⟩).run Try.prog w = .ok (.agg #[x, y, z]) w := run_loadVar_row w b 25 25 _ (0, 0) _ h Try.underlying25 rfl (by rw [Try.info_au]; rfl)
theorem ex_ld1 {ev : Operand → Value} {o : Oper} {x : Operand} {a : Addr} {v : Value} {w : World} (ho : o.op = .load 23 x) (hx : ev x = .pointer (some a)) (hc : w.cell? a = some v) : (execOp ev o).run Try.prog w = .ok (.value v) w := by
  unfold execOp
  simp only [ho, hx]
  go_simp
theorem ex_ldb {ev : Operand → Value} {o : Oper} {x : Operand} {a : Addr} {v : Value} {w : World} (ho : o.op = .load 4 x) (hx : ev x = .pointer (some a)) (hc : w.cell? a = some v) : (execOp ev o).run Try.prog w = .ok (.value v) w := by
  unfold execOp
  simp only [ho, hx]
  go_simp
theorem ex_idb {ev : Operand → Value} {o : Oper} {x y : Operand} {g q n cap i : Nat} (ho : o.op = .indexAddr 23 x y) (hx : ev x = .slice (some ⟨g, q, none⟩) n cap) (hy : ev y = .int .i64 (i : Int)) (hi : i < n) (w : World) : (execOp ev o).run Try.prog w = .ok (.value (.pointer (some ⟨g, q + i, none⟩))) w := by
  unfold execOp
  have h1 : (i : Int) < n := by omega
  simp only [ho, hx, hy]
  go_simp
theorem ex_eqi {ev : Operand → Value} {o : Oper} {x y : Operand} {a b : Int} {ty : TypeId} (ho : o.op = .binOp .eql 3 x y ty) (hx : ev x = .int .i64 a) (hy : ev y = .int .i64 b) (w : World) : (execOp ev o).run Try.prog w = .ok (.value (.bool (a == b))) w := by
  unfold execOp
  simp only [ho, hx, hy]
  go_simp
theorem ex_eqb {ev : Operand → Value} {o : Oper} {x y : Operand} {a b : Bool} {ty : TypeId} (ho : o.op = .binOp .eql 4 x y ty) (hx : ev x = .bool a) (hy : ev y = .bool b) (w : World) : (execOp ev o).run Try.prog w = .ok (.value (.bool (a == b))) w := by
  unfold execOp
  simp only [ho, hx, hy]
  go_simp

set_option maxHeartbeats 8000000 in
set_option maxRecDepth 100000 in
theorem walk (va : Value) (A : Aut) (u v : ByteArray) (W : World) (ha : AR W va A) (hna : NilOk va) (hma : (A.nx.length + 2) * 8 ≤ 140737488355328) (hma2 : A.ac.length ≤ 140737488355328) (hu : u.size ≤ 140737488355327) (hv : v.size ≤ 140737488355327) :
    Calls Try.prog 3 #[va, .string u, .string v] W fun e w' => e = .returned (.bool true) ∧ Below W.heap.size W w' := by
  obtain ⟨an, cn, aa, ca, ea, _, k2⟩ := ha.is
  have HAA : Hid (∀ y, Below W.heap.size W y → AR y va A) := fun y hy => ha.stay hy
  have K2 : Hid (∀ y, Below W.heap.size W y → SR y aa (bC A.ac)) := fun y hy => k2.stay hy
  subst ea
  have HBT : Hid (∀ y, Below W.heap.size W y → Calls Try.prog 5 #[.agg #[.int .i64 A.k, .slice an A.nx.length cn, .slice aa A.ac.length ca]] y (BtQ A y)) := fun y hy => built_any _ A y (HAA.out y hy) (by omega) (by omega)
  obtain ⟨w0, hw0⟩ : ∃ w0, w0 = W.alloc (.cells #[.int .i64 A.k, .slice an A.nx.length cn, .slice aa A.ac.length ca] 25) := ⟨_, rfl⟩
  have HS0 : Hid (SK [] W #[.int .i64 A.k, .slice an A.nx.length cn, .slice aa A.ac.length ca] w0) := by
    show SK _ _ _ _
    rw [hw0]
    exact ⟨⟨fun p hp => by simp at hp, below_new _ _⟩, heap_last _ _⟩
  have HW0 : Hid (w0 = W.alloc (.cells #[.int .i64 A.k, .slice an A.nx.length cn, .slice aa A.ac.length ca] 25)) := hw0
  have hs1 : u.size + v.size ≤ 9223372036854775807 := by omega
  have hs1' : ¬ 9223372036854775807 < u.size + v.size := by omega
  have HCK : Hid (∀ y, Calls Try.prog 6 #[.int .i64 A.k, .string (u ++ v)] y fun e w' => e = .returned (.int .i64 (chk A.k (u ++ v))) ∧ Below y.heap.size y w') := fun y => rcheck_any A.k _ y (by rw [ByteArray.size_append]; unfold maxLen; omega)
  have HSZ : Hid (u.size ≤ 9223372036854775807 ∧ v.size ≤ 9223372036854775807) := ⟨by omega, by omega⟩
  clear ha hna hma hma2 hu hv hw0 k2
  go_enter Try.func3, Try.ntmps3
  go_wp2_with fail
  rw [← HW0.out]
  refine (HBT.out _ HS0.out.k.below).mono ?_
  rintro e w1 (⟨rfl, hb⟩ | ⟨ob, M, N, rfl, G, h64, hE, hmo, hb⟩)
  · have HS1 : Hid (SK [] W #[.int .i64 A.k, .slice an A.nx.length cn, .slice aa A.ac.length ca] w1) := HS0.out.call hb
    clear hb
    go_wp2_with fail
    refine (live14_any _).mono ?_
    rintro e w2 ⟨rfl, hb⟩
    have HS2 : Hid (SK [] W #[.int .i64 A.k, .slice an A.nx.length cn, .slice aa A.ac.length ca] w2) := HS1.out.call hb
    clear hb
    go_wp2_with fail
    go_ret
    exact ⟨rfl, HS2.out.k.below⟩
  · have HS1 : Hid (SK [] W #[.int .i64 A.k, .slice an A.nx.length cn, .slice aa A.ac.length ca] w1) := HS0.out.call hb
    have HM1 : Hid (MO w1 ob A M N) := hmo
    have HMon : Hid (Mon A M N) := mon_of G h64 hE
    have HG : Hid (Good A) := G
    obtain ⟨ga, oa, rfl, _, _⟩ := (K2.out w1 HS1.out.k.below).bool (i := 0) (by have := G.n1; omega)
    have cs := HS1.out.row
    have H64 : Hid (A.ac.length ≤ 64) := h64
    clear hb hmo G hE h64
    go_wp2_with fail
    refine (HCK.out _).mono ?_
    rintro e w2 ⟨rfl, hb⟩
    have HS2 : Hid (SK [] W #[.int .i64 A.k, .slice an A.nx.length cn, .slice (some ⟨ga, oa, none⟩) A.ac.length ca] w2) := HS1.out.call hb
    have HM2 : Hid (MO w2 ob A M N) := HM1.out.below hb
    clear hb cs
    by_cases hc : chk A.k (u ++ v) = 0
    · have hk1 := HG.out.k1
      have hk8 := HG.out.k8
      obtain ⟨huc, hvc⟩ := (chk_app A.k hk1 hk8 _ _).1 hc
      have HU : Hid (Lt A.k.toNat (lets u)) := (chk_all huc).ltn hk1
      have HV : Hid (Lt A.k.toNat (lets v)) := (chk_all hvc).ltn hk1
      obtain ⟨X, hX⟩ : ∃ X, mr A.k.toNat N 0 (lets u) = X := ⟨_, rfl⟩
      obtain ⟨Y, hY⟩ : ∃ Y, mr A.k.toNat N 0 (lets v) = Y := ⟨_, rfl⟩
      have hXl : X < M.length := by rw [← hX]; exact HMon.out.lt HU.out HMon.out.pos
      have hYl : Y < M.length := by rw [← hY]; exact HMon.out.lt HV.out HMon.out.pos
      have hXe : M[X]? = some (act A (lets u)) := by rw [← hX]; exact HMon.out.word HU.out
      have hYe : M[Y]? = some (act A (lets v)) := by rw [← hY]; exact HMon.out.word HV.out
      have hPe : M[pr A.k.toNat N X Y]? = some (cmp (act A (lets u)) (act A (lets v))) := HMon.out.pr hXe hYe
      have hTx : Tf (act A (lets u)) := act_tf HG.out H64.out HU.out
      have hTy : Tf (act A (lets v)) := act_tf HG.out H64.out HV.out
      have hLe : (act A (lets u)).length = (act A (lets v)).length := by rw [act_len, act_len]
      have hTp : Tf (cmp (act A (lets u)) (act A (lets v))) := (HMon.out.tf hPe).1
      have HSM : Hid (al A (lets u) (lets v) A.ac.length = decide (X = Y)) := by
        show _ = _
        rw [al_act, Bool.eq_iff_iff, decide_eq_true_iff, decide_eq_true_iff, ← hX, ← hY]
        exact (HMon.out.same HU.out HV.out).symm
      have HAC : Hid (acc A M X = A.ac.getD (goN A 0 (lets u)) false) := by
        show _ = _
        unfold acc aN
        rw [getD_of hXe, act_im A _ (by have := HG.out.n1; omega)]
      have HXY : Hid (((X : Int) == (Y : Int)) = decide (X = Y)) := by
        show _ = _
        rw [Bool.eq_iff_iff, beq_iff_eq, decide_eq_true_iff]
        omega
      have C1 : Hid (∀ y, MO y ob A M N → Calls Try.prog 8 #[.pointer (some ⟨ob, 0, none⟩), .string u] y fun e w' => e = .returned (.tuple #[.int .i64 (X : Nat), .int .i64 0]) ∧ Below y.heap.size y w') := fun y hy => by
        have := mElement_any hy u HSZ.out.1
        unfold elV at this
        rw [if_pos huc, hX] at this
        exact this
      have C2 : Hid (∀ y, MO y ob A M N → Calls Try.prog 8 #[.pointer (some ⟨ob, 0, none⟩), .string v] y fun e w' => e = .returned (.tuple #[.int .i64 (Y : Nat), .int .i64 0]) ∧ Below y.heap.size y w') := fun y hy => by
        have := mElement_any hy v HSZ.out.2
        unfold elV at this
        rw [if_pos hvc, hY] at this
        exact this
      have HGU : Hid (∀ y s, Below W.heap.size W y → s < A.ac.length → Calls Try.prog 11 #[.agg #[.int .i64 A.k, .slice an A.nx.length cn, .slice (some ⟨ga, oa, none⟩) A.ac.length ca], .int .i64 (s : Int), .string u] y fun e w' => e = .returned (.int .i64 (goN A s (lets u) : Nat)) ∧ Below y.heap.size y w') := fun y s hy hs => rgo_any _ A y (HAA.out y hy) HG.out s hs u (chk_all huc) HSZ.out.1
      have HGV : Hid (∀ y s, Below W.heap.size W y → s < A.ac.length → Calls Try.prog 11 #[.agg #[.int .i64 A.k, .slice an A.nx.length cn, .slice (some ⟨ga, oa, none⟩) A.ac.length ca], .int .i64 (s : Int), .string v] y fun e w' => e = .returned (.int .i64 (goN A s (lets v) : Nat)) ∧ Below y.heap.size y w') := fun y s hy hs => rgo_any _ A y (HAA.out y hy) HG.out s hs v (chk_all hvc) HSZ.out.2
      have CA : Hid (∀ y i, Below W.heap.size W y → i < A.ac.length → y.cell? ⟨ga, oa + i, none⟩ = some (.bool (A.ac.getD i false))) := fun y i hy hi => by
        obtain ⟨g', o', e', _, hc'⟩ := (K2.out y hy).bool hi
        simp only [Option.some.injEq, Addr.mk.injEq] at e'
        obtain ⟨rfl, rfl, _⟩ := e'
        exact hc'
      have hG0 : goN A 0 (lets u) < A.ac.length := goW_lt HG.out (by have := HG.out.n1; omega) huc
      obtain ⟨P, hP⟩ : ∃ P, pr A.k.toNat N X Y = P := ⟨_, rfl⟩
      obtain ⟨lx, hlx⟩ : ∃ l, act A (lets u) = l := ⟨_, rfl⟩
      obtain ⟨ly, hly⟩ : ∃ l, act A (lets v) = l := ⟨_, rfl⟩
      obtain ⟨lp, hlp⟩ : ∃ l, cmp lx ly = l := ⟨_, rfl⟩
      rw [hlx] at hXe hPe hTx hLe hTp
      rw [hly] at hYe hPe hTy hLe hTp
      rw [hlp] at hPe hTp
      rw [hP] at hPe
      have C3 : Hid (∀ y, MO y ob A M N → Calls Try.prog 9 #[.pointer (some ⟨ob, 0, none⟩), .int .i64 (X : Nat), .int .i64 (Y : Nat)] y fun e w' => e = .returned (.tuple #[.int .i64 (P : Nat), .int .i64 0]) ∧ Below y.heap.size y w') := fun y hy => by
        have := mproduct_ok hy X Y hXl hYl
        rw [hP] at this
        exact this
      have CTX : Hid (∀ y, MO y ob A M N → Calls Try.prog 12 #[.pointer (some ⟨ob, 0, none⟩), .int .i64 (X : Nat)] y fun e w' => e = .returned (.tuple #[.agg (tC lx), .int .i64 0]) ∧ Below y.heap.size y w') := fun y hy => mtrans_ok hy X lx hXe
      have CTY : Hid (∀ y, MO y ob A M N → Calls Try.prog 12 #[.pointer (some ⟨ob, 0, none⟩), .int .i64 (Y : Nat)] y fun e w' => e = .returned (.tuple #[.agg (tC ly), .int .i64 0]) ∧ Below y.heap.size y w') := fun y hy => mtrans_ok hy Y ly hYe
      have CTP : Hid (∀ y, MO y ob A M N → Calls Try.prog 12 #[.pointer (some ⟨ob, 0, none⟩), .int .i64 (P : Nat)] y fun e w' => e = .returned (.tuple #[.agg (tC lp), .int .i64 0]) ∧ Below y.heap.size y w') := fun y hy => mtrans_ok hy P lp hPe
      have CCM : Hid (∀ y, Calls Try.prog 13 #[.agg (tC lx), .agg (tC ly)] y fun e w' => e = .returned (.tuple #[.agg (tC lp), .int .i64 0]) ∧ Below y.heap.size y w') := fun y => by
        have := compose_tC lx ly hTx hTy hLe y
        rw [hlp] at this
        exact this
      have hsl : sameL lp lp = true := (sameL_iff hTp hTp).2 rfl
      have HSL : Hid (sameL lp lp = true) := hsl
      have CAC : Hid (∀ y, MO y ob A M N → Calls Try.prog 14 #[.pointer (some ⟨ob, 0, none⟩), .int .i64 (X : Nat)] y fun e w' => e = .returned (.tuple #[.bool (A.ac.getD (goN A 0 (lets u)) false), .int .i64 0]) ∧ y = w') := fun y hy => by
        have := maccept_ok hy X hXl
        rw [HAC.out] at this
        exact this
      obtain ⟨g0, hg0⟩ : ∃ g0, goN A 0 (lets u) = g0 := ⟨_, rfl⟩
      have HG0 : Hid (∀ y, Below W.heap.size W y → Calls Try.prog 11 #[.agg #[.int .i64 A.k, .slice an A.nx.length cn, .slice (some ⟨ga, oa, none⟩) A.ac.length ca], .int .i64 0, .string u] y fun e w' => e = .returned (.int .i64 (g0 : Nat)) ∧ Below y.heap.size y w') := fun y hy => by
        have := HGU.out y 0 hy (by have := HG.out.n1; omega)
        rw [hg0] at this
        exact this
      rw [hg0] at CAC hG0
      have CA0 : Hid (∀ y, Below W.heap.size W y → y.cell? ⟨ga, oa + g0, none⟩ = some (.bool (A.ac.getD g0 false))) := fun y hy => CA.out y g0 hy hG0
      have HG0l : Hid (g0 < A.ac.length) := hG0
      obtain ⟨b0, hb0⟩ : ∃ b0, A.ac.getD g0 false = b0 := ⟨_, rfl⟩
      rw [hb0] at CAC CA0
      have HN1 : Hid (A.ac.length ≤ 64) := H64.out
      rw [hc]
      clear hc huc hvc hX hY hXl hYl hXe hYe hPe hTx hTy hLe hTp hP hlx hly hlp hsl hg0 hG0 hb0 hk1 hk8 CA HAC K2
      go_wp2_with fail
      refine (C1.out _ HM2.out).mono ?_
      rintro e w3 ⟨rfl, hb⟩
      have HS3 : Hid (SK [] W #[.int .i64 A.k, .slice an A.nx.length cn, .slice (some ⟨ga, oa, none⟩) A.ac.length ca] w3) := HS2.out.call hb
      have HM3 : Hid (MO w3 ob A M N) := HM2.out.below hb
      clear hb
      go_wp2_with fail
      refine (C2.out _ HM3.out).mono ?_
      rintro e w4 ⟨rfl, hb⟩
      have HS4 : Hid (SK [] W #[.int .i64 A.k, .slice an A.nx.length cn, .slice (some ⟨ga, oa, none⟩) A.ac.length ca] w4) := HS3.out.call hb
      have HM4 : Hid (MO w4 ob A M N) := HM3.out.below hb
      clear hb
      go_wp2_with fail
      refine (C3.out _ HM4.out).mono ?_
      rintro e w5 ⟨rfl, hb⟩
      have HS5 : Hid (SK [] W #[.int .i64 A.k, .slice an A.nx.length cn, .slice (some ⟨ga, oa, none⟩) A.ac.length ca] w5) := HS4.out.call hb
      have HM5 : Hid (MO w5 ob A M N) := HM4.out.below hb
      clear hb
      go_wp2_with (first | (go_at_call 10; refine (num14_any _ _).mono ?_; rintro e yn ⟨rfl, hyn⟩; subst yn))
      go_loopw [15, 16] (fun vs vi wr => ∃ i : Nat, vi = .int .i64 i ∧ i ≤ A.ac.length ∧ vs = .bool (al A (lets u) (lets v) i) ∧ SK [] W #[.int .i64 A.k, .slice an A.nx.length cn, .slice (some ⟨ga, oa, none⟩) A.ac.length ca] wr ∧ MO wr ob A M N) (fun _ vi _ => A.ac.length - (Go.Lib.intOf vi).toNat)
      case atStart => exact ⟨0, rfl, Nat.zero_le _, rfl, HS5.out, HM5.out⟩
      case round =>
        obtain ⟨i, rfl, hil, rfl, hs, hmo⟩ := hrel
        have HS : Hid (SK [] W #[.int .i64 A.k, .slice an A.nx.length cn, .slice (some ⟨ga, oa, none⟩) A.ac.length ca] wr) := hs
        have HM : Hid (MO wr ob A M N) := hmo
        have cs := hs.row
        have h64 := HN1.out
        clear hs hmo
        by_cases hlt : i < A.ac.length
        · have hiI : (i : Int) < A.ac.length := by omega
          have HLT : Hid (i < A.ac.length) := hlt
          obtain ⟨sm, hsm⟩ : ∃ sm, al A (lets u) (lets v) i = sm := ⟨_, rfl⟩
          have HSC : Hid (al A (lets u) (lets v) (i + 1) = (sm && (goN A i (lets u) == goN A i (lets v)))) := by show _ = _; rw [al_succ, hsm]
          rw [hsm]
          have D1 : Hid (∀ y, Below W.heap.size W y → Calls Try.prog 11 #[.agg #[.int .i64 A.k, .slice an A.nx.length cn, .slice (some ⟨ga, oa, none⟩) A.ac.length ca], .int .i64 (i : Int), .string u] y fun e w' => e = .returned (.int .i64 (goN A i (lets u) : Nat)) ∧ Below y.heap.size y w') := fun y hy => HGU.out y i hy HLT.out
          have D2 : Hid (∀ y, Below W.heap.size W y → Calls Try.prog 11 #[.agg #[.int .i64 A.k, .slice an A.nx.length cn, .slice (some ⟨ga, oa, none⟩) A.ac.length ca], .int .i64 (i : Int), .string v] y fun e w' => e = .returned (.int .i64 (goN A i (lets v) : Nat)) ∧ Below y.heap.size y w') := fun y hy => HGV.out y i hy HLT.out
          obtain ⟨gu, hgu⟩ : ∃ gu, goN A i (lets u) = gu := ⟨_, rfl⟩
          obtain ⟨gv, hgv⟩ : ∃ gv, goN A i (lets v) = gv := ⟨_, rfl⟩
          rw [hgu] at HSC D1
          rw [hgv] at HSC D2
          clear hsm hgu hgv hlt
          go_wp2_with fail
          cases sm with
          | true =>
            obtain ⟨q, hq⟩ : ∃ q, (gu == gv) = q := ⟨_, rfl⟩
            rw [hq, Bool.true_and] at HSC
            have HQ : Hid (((gu : Int) == (gv : Int)) = q) := by show _ = _; rw [beq_cast, hq]
            clear hq
            refine wp_region_held_drew (S := fun w' => SK [] W #[.int .i64 A.k, .slice an A.nx.length cn, .slice (some ⟨ga, oa, none⟩) A.ac.length ca] w') (by kernel_rfl) HS.out.drew (fun hH0 => ?_)
            have HMD : Hid (MO wr.drew ob A M N) := HM.out.below (Below.refl _ _).drew
            generalize wr.drew = y0 at hH0 HMD ⊢
            refine wpAnyH_take (i := 0) (oi := { dst := some 76, op := Go.Op.move (Go.Operand.tmp 15), type := 4, pos := "law.go:247", after := #[], guard := none }) (v := ?_) rfl (by kernel_rfl) (by kernel_rfl) (by kernel_rfl) (fun _ _ _ h => h) (Or.inl ⟨by rfl, ?_⟩) (by assumption) ?_
            rotate_left
            · intro w' hS; go_simp; (try with_reducible rfl)
            simp only [Act.put, List.setIfInBounds_toArray, List.set_cons_zero, List.set_cons_succ]
            refine wpAnyH_take (i := 1) (oi := { dst := some 77, op := Go.Op.move (Go.Operand.tmp 76), type := 4, pos := "law.go:247", after := #[{ on := 0, ground := Go.Ground.data }], guard := none }) (v := ?_) rfl (by kernel_rfl) (by kernel_rfl) (by kernel_rfl) (fun _ _ _ h => h) (Or.inl ⟨by rfl, ?_⟩) (by assumption) ?_
            rotate_left
            · intro w' hS; go_simp; (try with_reducible rfl)
            simp only [Act.put, List.setIfInBounds_toArray, List.set_cons_zero, List.set_cons_succ]
            refine wpAnyH_take (i := 2) (oi := { dst := some 78, op := Go.Op.load 25 (Go.Operand.tmp 3), type := 25, pos := "law.go:247", after := #[{ on := 1, ground := Go.Ground.guard }], guard := some (1, true) }) (v := .agg #[.int .i64 A.k, .slice an A.nx.length cn, .slice (some ⟨ga, oa, none⟩) A.ac.length ca]) rfl (by kernel_rfl) (by kernel_rfl) (by kernel_rfl) (fun _ _ _ h => h) (Or.inl ⟨by rfl, ?_⟩) (by assumption) ?_
            · intro w' hS; exact ex_load_row rfl rfl (lv_auto hS.blk)
            simp only [Act.put, List.setIfInBounds_toArray, List.set_cons_zero, List.set_cons_succ]
            refine wpAnyH_take (i := 3) (oi := { dst := some 79, op := Go.Op.move (Go.Operand.tmp 16), type := 3, pos := "law.go:247", after := #[{ on := 1, ground := Go.Ground.guard }], guard := some (1, true) }) (v := ?_) rfl (by kernel_rfl) (by kernel_rfl) (by kernel_rfl) (fun _ _ _ h => h) (Or.inl ⟨by rfl, ?_⟩) (by assumption) ?_
            rotate_left
            · intro w' hS; go_simp; (try with_reducible rfl)
            simp only [Act.put, List.setIfInBounds_toArray, List.set_cons_zero, List.set_cons_succ]
            refine wpAnyH_take (i := 4) (oi := { dst := some 80, op := Go.Op.move (Go.Operand.tmp 1), type := 9, pos := "law.go:247", after := #[{ on := 1, ground := Go.Ground.guard }], guard := some (1, true) }) (v := ?_) rfl (by kernel_rfl) (by kernel_rfl) (by kernel_rfl) (fun _ _ _ h => h) (Or.inl ⟨by rfl, ?_⟩) (by assumption) ?_
            rotate_left
            · intro w' hS; go_simp; (try with_reducible rfl)
            simp only [Act.put, List.setIfInBounds_toArray, List.set_cons_zero, List.set_cons_succ]
            refine wpAnyH_take (i := 6) (oi := { dst := some 82, op := Go.Op.load 25 (Go.Operand.tmp 3), type := 25, pos := "law.go:247", after := #[{ on := 1, ground := Go.Ground.guard }], guard := some (1, true) }) (v := .agg #[.int .i64 A.k, .slice an A.nx.length cn, .slice (some ⟨ga, oa, none⟩) A.ac.length ca]) rfl (by kernel_rfl) (by kernel_rfl) (by kernel_rfl) (fun _ _ _ h => h) (Or.inl ⟨by rfl, ?_⟩) (by assumption) ?_
            · intro w' hS; exact ex_load_row rfl rfl (lv_auto hS.blk)
            simp only [Act.put, List.setIfInBounds_toArray, List.set_cons_zero, List.set_cons_succ]
            refine wpAnyH_take (i := 7) (oi := { dst := some 83, op := Go.Op.move (Go.Operand.tmp 16), type := 3, pos := "law.go:247", after := #[{ on := 1, ground := Go.Ground.guard }], guard := some (1, true) }) (v := ?_) rfl (by kernel_rfl) (by kernel_rfl) (by kernel_rfl) (fun _ _ _ h => h) (Or.inl ⟨by rfl, ?_⟩) (by assumption) ?_
            rotate_left
            · intro w' hS; go_simp; (try with_reducible rfl)
            simp only [Act.put, List.setIfInBounds_toArray, List.set_cons_zero, List.set_cons_succ]
            refine wpAnyH_take (i := 8) (oi := { dst := some 84, op := Go.Op.move (Go.Operand.tmp 2), type := 9, pos := "law.go:247", after := #[{ on := 1, ground := Go.Ground.guard }], guard := some (1, true) }) (v := ?_) rfl (by kernel_rfl) (by kernel_rfl) (by kernel_rfl) (fun _ _ _ h => h) (Or.inl ⟨by rfl, ?_⟩) (by assumption) ?_
            rotate_left
            · intro w' hS; go_simp; (try with_reducible rfl)
            simp only [Act.put, List.setIfInBounds_toArray, List.set_cons_zero, List.set_cons_succ]
            refine wpAnyH_ready (rs := [5]) (by kernel_rfl) (by simp) ?_
            refine AllReadyH.cons rfl (fun K hK => ?_) AllReadyH.nil
            go_simp
            refine (D1.out _ hH0.k.below).mono ?_
            rintro e y1 ⟨rfl, hB⟩
            have hN := hH0.call hB
            have HY1 : Hid (Below y0.heap.size y0 y1) := hB
            clear hB
            go_wp2_with fail
            refine hK.out _ _ hN (fun hH1 => ?_)
            clear hN
            clear hK K
            refine wpAnyH_ready (rs := [9]) (by kernel_rfl) (by simp) ?_
            refine AllReadyH.cons rfl (fun K hK => ?_) AllReadyH.nil
            go_simp
            refine (D2.out _ hH1.k.below).mono ?_
            rintro e y2 ⟨rfl, hB⟩
            have hN := hH1.call hB
            have HY2 : Hid (Below y1.heap.size y1 y2) := hB
            clear hB
            go_wp2_with fail
            refine hK.out _ _ hN (fun hH2 => ?_)
            clear hN
            clear hK K
            refine wpAnyH_take (i := 10) (oi := { dst := some 86, op := Go.Op.binOp Go.BinOp.eql 3 (Go.Operand.tmp 81) (Go.Operand.tmp 85) 3, type := 4, pos := "law.go:247", after := #[{ on := 5, ground := Go.Ground.data }, { on := 9, ground := Go.Ground.data }, { on := 1, ground := Go.Ground.guard }], guard := some (1, true) }) (v := .bool q) rfl (by kernel_rfl) (by kernel_rfl) (by kernel_rfl) (fun _ _ _ h => h) (Or.inl ⟨by rfl, ?_⟩) (by assumption) ?_
            · intro w' hS; exact (ex_eqi (a := (gu : Int)) (b := (gv : Int)) rfl rfl rfl w').trans (by rw [HQ.out])
            simp only [Act.put, List.setIfInBounds_toArray, List.set_cons_zero, List.set_cons_succ]
            refine wpAnyH_take (i := 11) (oi := { dst := some 87, op := Go.Op.pick (Go.Operand.tmp 77) (Go.Operand.tmp 86) (Go.Operand.const (Go.Value.bool false)), type := 4, pos := "law.go:247", after := #[{ on := 1, ground := Go.Ground.data }, { on := 10, ground := Go.Ground.data }], guard := none }) (v := ?_) rfl (by kernel_rfl) (by kernel_rfl) (by kernel_rfl) (fun _ _ _ h => h) (Or.inl ⟨by rfl, ?_⟩) (by assumption) ?_
            rotate_left
            · intro w' hS; go_simp; (try with_reducible rfl)
            simp only [Act.put, List.setIfInBounds_toArray, List.set_cons_zero, List.set_cons_succ]
            refine wpAnyH_take (i := 12) (oi := { dst := some 15, op := Go.Op.assign (Go.Operand.tmp 87), type := 4, pos := "law.go:247", after := #[{ on := 11, ground := Go.Ground.data }, { on := 9, ground := Go.Ground.chain }, { on := 0, ground := Go.Ground.phase }, { on := 1, ground := Go.Ground.phase }, { on := 2, ground := Go.Ground.phase }, { on := 3, ground := Go.Ground.phase }, { on := 4, ground := Go.Ground.phase }, { on := 5, ground := Go.Ground.phase }, { on := 6, ground := Go.Ground.phase }, { on := 7, ground := Go.Ground.phase }, { on := 8, ground := Go.Ground.phase }, { on := 9, ground := Go.Ground.phase }, { on := 10, ground := Go.Ground.phase }, { on := 11, ground := Go.Ground.phase }], guard := none }) (v := ?_) rfl (by kernel_rfl) (by kernel_rfl) (by kernel_rfl) (fun _ _ _ h => h) (Or.inl ⟨by rfl, ?_⟩) (by assumption) ?_
            rotate_left
            · intro w' hS; go_simp; (try with_reducible rfl)
            simp only [Act.put, List.setIfInBounds_toArray, List.set_cons_zero, List.set_cons_succ]
            refine wpAnyH_done (by kernel_rfl) ?_ _
            have HMe : Hid (MO y2 ob A M N) := (HMD.out.below HY1.out).below HY2.out
            clear HY1 HY2
            go_wp2_with fail
            go_roundw
            case rel => exact ⟨i + 1, by go_num, HLT.out, by rw [HSC.out], hH2, HMe.out⟩
            case measure => have := HLT.out; simp [Go.Lib.intOf]; omega
          | false =>
            rw [Bool.false_and] at HSC
            refine wp_region_held_drew (S := fun w' => SK [] W #[.int .i64 A.k, .slice an A.nx.length cn, .slice (some ⟨ga, oa, none⟩) A.ac.length ca] w') (by kernel_rfl) HS.out.drew (fun hH0 => ?_)
            have HMD : Hid (MO wr.drew ob A M N) := HM.out.below (Below.refl _ _).drew
            generalize wr.drew = y0 at hH0 HMD ⊢
            refine wpAnyH_take (i := 0) (oi := { dst := some 76, op := Go.Op.move (Go.Operand.tmp 15), type := 4, pos := "law.go:247", after := #[], guard := none }) (v := ?_) rfl (by kernel_rfl) (by kernel_rfl) (by kernel_rfl) (fun _ _ _ h => h) (Or.inl ⟨by rfl, ?_⟩) (by assumption) ?_
            rotate_left
            · intro w' hS; go_simp; (try with_reducible rfl)
            simp only [Act.put, List.setIfInBounds_toArray, List.set_cons_zero, List.set_cons_succ]
            refine wpAnyH_take (i := 1) (oi := { dst := some 77, op := Go.Op.move (Go.Operand.tmp 76), type := 4, pos := "law.go:247", after := #[{ on := 0, ground := Go.Ground.data }], guard := none }) (v := ?_) rfl (by kernel_rfl) (by kernel_rfl) (by kernel_rfl) (fun _ _ _ h => h) (Or.inl ⟨by rfl, ?_⟩) (by assumption) ?_
            rotate_left
            · intro w' hS; go_simp; (try with_reducible rfl)
            simp only [Act.put, List.setIfInBounds_toArray, List.set_cons_zero, List.set_cons_succ]
            refine wpAnyH_take (i := 2) (oi := { dst := some 78, op := Go.Op.load 25 (Go.Operand.tmp 3), type := 25, pos := "law.go:247", after := #[{ on := 1, ground := Go.Ground.guard }], guard := some (1, true) }) (v := undef) rfl (by kernel_rfl) (by kernel_rfl) (by kernel_rfl) (fun _ _ _ h => h) (Or.inr ⟨by rfl, rfl⟩) (by assumption) ?_
            simp only [Act.put, List.setIfInBounds_toArray, List.set_cons_zero, List.set_cons_succ]
            refine wpAnyH_take (i := 3) (oi := { dst := some 79, op := Go.Op.move (Go.Operand.tmp 16), type := 3, pos := "law.go:247", after := #[{ on := 1, ground := Go.Ground.guard }], guard := some (1, true) }) (v := undef) rfl (by kernel_rfl) (by kernel_rfl) (by kernel_rfl) (fun _ _ _ h => h) (Or.inr ⟨by rfl, rfl⟩) (by assumption) ?_
            simp only [Act.put, List.setIfInBounds_toArray, List.set_cons_zero, List.set_cons_succ]
            refine wpAnyH_take (i := 4) (oi := { dst := some 80, op := Go.Op.move (Go.Operand.tmp 1), type := 9, pos := "law.go:247", after := #[{ on := 1, ground := Go.Ground.guard }], guard := some (1, true) }) (v := undef) rfl (by kernel_rfl) (by kernel_rfl) (by kernel_rfl) (fun _ _ _ h => h) (Or.inr ⟨by rfl, rfl⟩) (by assumption) ?_
            simp only [Act.put, List.setIfInBounds_toArray, List.set_cons_zero, List.set_cons_succ]
            refine wpAnyH_take (i := 6) (oi := { dst := some 82, op := Go.Op.load 25 (Go.Operand.tmp 3), type := 25, pos := "law.go:247", after := #[{ on := 1, ground := Go.Ground.guard }], guard := some (1, true) }) (v := undef) rfl (by kernel_rfl) (by kernel_rfl) (by kernel_rfl) (fun _ _ _ h => h) (Or.inr ⟨by rfl, rfl⟩) (by assumption) ?_
            simp only [Act.put, List.setIfInBounds_toArray, List.set_cons_zero, List.set_cons_succ]
            refine wpAnyH_take (i := 7) (oi := { dst := some 83, op := Go.Op.move (Go.Operand.tmp 16), type := 3, pos := "law.go:247", after := #[{ on := 1, ground := Go.Ground.guard }], guard := some (1, true) }) (v := undef) rfl (by kernel_rfl) (by kernel_rfl) (by kernel_rfl) (fun _ _ _ h => h) (Or.inr ⟨by rfl, rfl⟩) (by assumption) ?_
            simp only [Act.put, List.setIfInBounds_toArray, List.set_cons_zero, List.set_cons_succ]
            refine wpAnyH_take (i := 8) (oi := { dst := some 84, op := Go.Op.move (Go.Operand.tmp 2), type := 9, pos := "law.go:247", after := #[{ on := 1, ground := Go.Ground.guard }], guard := some (1, true) }) (v := undef) rfl (by kernel_rfl) (by kernel_rfl) (by kernel_rfl) (fun _ _ _ h => h) (Or.inr ⟨by rfl, rfl⟩) (by assumption) ?_
            simp only [Act.put, List.setIfInBounds_toArray, List.set_cons_zero, List.set_cons_succ]
            refine wpAnyH_ready (rs := [5]) (by kernel_rfl) (by simp) ?_
            refine AllReadyH.cons rfl (fun K hK => ?_) AllReadyH.nil
            go_simp
            refine hK.out _ _ hH0 (fun hH0 => ?_)
            clear hK K
            refine wpAnyH_ready (rs := [9]) (by kernel_rfl) (by simp) ?_
            refine AllReadyH.cons rfl (fun K hK => ?_) AllReadyH.nil
            go_simp
            refine hK.out _ _ hH0 (fun hH0 => ?_)
            clear hK K
            refine wpAnyH_take (i := 10) (oi := { dst := some 86, op := Go.Op.binOp Go.BinOp.eql 3 (Go.Operand.tmp 81) (Go.Operand.tmp 85) 3, type := 4, pos := "law.go:247", after := #[{ on := 5, ground := Go.Ground.data }, { on := 9, ground := Go.Ground.data }, { on := 1, ground := Go.Ground.guard }], guard := some (1, true) }) (v := undef) rfl (by kernel_rfl) (by kernel_rfl) (by kernel_rfl) (fun _ _ _ h => h) (Or.inr ⟨by rfl, rfl⟩) (by assumption) ?_
            simp only [Act.put, List.setIfInBounds_toArray, List.set_cons_zero, List.set_cons_succ]
            refine wpAnyH_take (i := 11) (oi := { dst := some 87, op := Go.Op.pick (Go.Operand.tmp 77) (Go.Operand.tmp 86) (Go.Operand.const (Go.Value.bool false)), type := 4, pos := "law.go:247", after := #[{ on := 1, ground := Go.Ground.data }, { on := 10, ground := Go.Ground.data }], guard := none }) (v := ?_) rfl (by kernel_rfl) (by kernel_rfl) (by kernel_rfl) (fun _ _ _ h => h) (Or.inl ⟨by rfl, ?_⟩) (by assumption) ?_
            rotate_left
            · intro w' hS; go_simp; (try with_reducible rfl)
            simp only [Act.put, List.setIfInBounds_toArray, List.set_cons_zero, List.set_cons_succ]
            refine wpAnyH_take (i := 12) (oi := { dst := some 15, op := Go.Op.assign (Go.Operand.tmp 87), type := 4, pos := "law.go:247", after := #[{ on := 11, ground := Go.Ground.data }, { on := 9, ground := Go.Ground.chain }, { on := 0, ground := Go.Ground.phase }, { on := 1, ground := Go.Ground.phase }, { on := 2, ground := Go.Ground.phase }, { on := 3, ground := Go.Ground.phase }, { on := 4, ground := Go.Ground.phase }, { on := 5, ground := Go.Ground.phase }, { on := 6, ground := Go.Ground.phase }, { on := 7, ground := Go.Ground.phase }, { on := 8, ground := Go.Ground.phase }, { on := 9, ground := Go.Ground.phase }, { on := 10, ground := Go.Ground.phase }, { on := 11, ground := Go.Ground.phase }], guard := none }) (v := ?_) rfl (by kernel_rfl) (by kernel_rfl) (by kernel_rfl) (fun _ _ _ h => h) (Or.inl ⟨by rfl, ?_⟩) (by assumption) ?_
            rotate_left
            · intro w' hS; go_simp; (try with_reducible rfl)
            simp only [Act.put, List.setIfInBounds_toArray, List.set_cons_zero, List.set_cons_succ]
            refine wpAnyH_done (by kernel_rfl) ?_ _
            go_wp2_with fail
            go_roundw
            case rel => exact ⟨i + 1, by go_num, HLT.out, by rw [HSC.out], hH0, HMD.out⟩
            case measure => have := HLT.out; simp [Go.Lib.intOf]; omega
        · have hiI : ¬ (i : Int) < A.ac.length := by omega
          obtain rfl : i = A.ac.length := by omega
          rw [HSM.out, ← HXY.out]
          have HS5' : Hid (SK [] W #[.int .i64 A.k, .slice an A.nx.length cn, .slice (some ⟨ga, oa, none⟩) A.ac.length ca] wr) := HS.out
          have HM5' : Hid (MO wr ob A M N) := HM.out
          clear hil hlt
          go_wp2_with fail
          refine (CTX.out _ HM5'.out).mono ?_
          rintro e x1 ⟨rfl, hb⟩
          have HSa1 : Hid (SK [] W #[.int .i64 A.k, .slice an A.nx.length cn, .slice (some ⟨ga, oa, none⟩) A.ac.length ca] x1) := HS5'.out.call hb
          have HMa1 : Hid (MO x1 ob A M N) := HM5'.out.below hb
          clear hb
          have hst := st_trNew x1 lx
          obtain ⟨z1, hz1⟩ : ∃ z, z = x1.alloc (.cells (tC lx) 40) := ⟨_, rfl⟩
          have HMz1 : Hid (MO z1 ob A M N) := by show MO _ _ _ _ _; rw [hz1]; exact HMa1.out.below (below_new _ _)
          have HSz1 : Hid (SK [(x1.heap.size, lx)] W #[.int .i64 A.k, .slice an A.nx.length cn, .slice (some ⟨ga, oa, none⟩) A.ac.length ca] z1) := by show SK _ _ _ _; rw [hz1]; exact HSa1.out.new lx
          rw [← hz1] at hst
          clear hz1 HSa1 HMa1
          go_wp2_with fail
          clear hst
          refine (CTY.out _ HMz1.out).mono ?_
          rintro e x2 ⟨rfl, hb⟩
          have HSa2 : Hid (SK [(x1.heap.size, lx)] W #[.int .i64 A.k, .slice an A.nx.length cn, .slice (some ⟨ga, oa, none⟩) A.ac.length ca] x2) := HSz1.out.call hb
          have HMa2 : Hid (MO x2 ob A M N) := HMz1.out.below hb
          clear hb
          have hst := st_trNew x2 ly
          obtain ⟨z2, hz2⟩ : ∃ z, z = x2.alloc (.cells (tC ly) 40) := ⟨_, rfl⟩
          have HMz2 : Hid (MO z2 ob A M N) := by show MO _ _ _ _ _; rw [hz2]; exact HMa2.out.below (below_new _ _)
          have HSz2 : Hid (SK [(x2.heap.size, ly), (x1.heap.size, lx)] W #[.int .i64 A.k, .slice an A.nx.length cn, .slice (some ⟨ga, oa, none⟩) A.ac.length ca] z2) := by show SK _ _ _ _; rw [hz2]; exact HSa2.out.new ly
          rw [← hz2] at hst
          clear hz2 HSa2 HMa2
          go_wp2_with fail
          clear hst
          refine (CTP.out _ HMz2.out).mono ?_
          rintro e x3 ⟨rfl, hb⟩
          have HSa3 : Hid (SK [(x2.heap.size, ly), (x1.heap.size, lx)] W #[.int .i64 A.k, .slice an A.nx.length cn, .slice (some ⟨ga, oa, none⟩) A.ac.length ca] x3) := HSz2.out.call hb
          have HMa3 : Hid (MO x3 ob A M N) := HMz2.out.below hb
          clear hb
          have hst := st_trNew x3 lp
          obtain ⟨z3, hz3⟩ : ∃ z, z = x3.alloc (.cells (tC lp) 40) := ⟨_, rfl⟩
          have HMz3 : Hid (MO z3 ob A M N) := by show MO _ _ _ _ _; rw [hz3]; exact HMa3.out.below (below_new _ _)
          have HSz3 : Hid (SK [(x3.heap.size, lp), (x2.heap.size, ly), (x1.heap.size, lx)] W #[.int .i64 A.k, .slice an A.nx.length cn, .slice (some ⟨ga, oa, none⟩) A.ac.length ca] z3) := by show SK _ _ _ _; rw [hz3]; exact HSa3.out.new lp
          rw [← hz3] at hst
          clear hz3 HSa3 HMa3
          have TLx : Hid (TL z3 x1.heap.size lx) := HSz3.out.k.get (by simp)
          have TLy : Hid (TL z3 x2.heap.size ly) := HSz3.out.k.get (by simp)
          go_wp2_with (first | (refine wl_load rfl rfl TLx.out rfl ?_) | (refine wl_load rfl rfl TLy.out rfl ?_))
          clear hst TLx TLy
          refine (CCM.out _).mono ?_
          rintro e x4 ⟨rfl, hb⟩
          have HSa4 : Hid (SK [(x3.heap.size, lp), (x2.heap.size, ly), (x1.heap.size, lx)] W #[.int .i64 A.k, .slice an A.nx.length cn, .slice (some ⟨ga, oa, none⟩) A.ac.length ca] x4) := HSz3.out.call hb
          have HMa4 : Hid (MO x4 ob A M N) := HMz3.out.below hb
          clear hb
          have hst := st_trNew x4 lp
          obtain ⟨z4, hz4⟩ : ∃ z, z = x4.alloc (.cells (tC lp) 40) := ⟨_, rfl⟩
          have HMz4 : Hid (MO z4 ob A M N) := by show MO _ _ _ _ _; rw [hz4]; exact HMa4.out.below (below_new _ _)
          have HSz4 : Hid (SK [(x4.heap.size, lp), (x3.heap.size, lp), (x2.heap.size, ly), (x1.heap.size, lx)] W #[.int .i64 A.k, .slice an A.nx.length cn, .slice (some ⟨ga, oa, none⟩) A.ac.length ca] z4) := by show SK _ _ _ _; rw [hz4]; exact HSa4.out.new lp
          rw [← hz4] at hst
          clear hz4 HSa4 HMa4
          go_wp2_with fail
          clear hst
          refine (CAC.out _ HMz4.out).mono ?_
          rintro e xa ⟨rfl, rfl⟩
          go_wp2_with fail
          refine wp_region_held_drew (S := fun w' => SK [(x4.heap.size, lp), (x3.heap.size, lp), (x2.heap.size, ly), (x1.heap.size, lx)] W #[.int .i64 A.k, .slice an A.nx.length cn, .slice (some ⟨ga, oa, none⟩) A.ac.length ca] w') (by kernel_rfl) HSz4.out.drew (fun hH0 => ?_)
          generalize z4.drew = y0 at hH0 ⊢
          refine wpAnyH_take (i := 0) (oi := { dst := some 118, op := Go.Op.move (Go.Operand.tmp 10), type := 31, pos := "law.go:254", after := #[], guard := none }) (v := ?_) rfl (by kernel_rfl) (by kernel_rfl) (by kernel_rfl) (fun _ _ _ h => h) (Or.inl ⟨by rfl, ?_⟩) (by assumption) ?_
          rotate_left
          · intro w' hS; go_simp; (try with_reducible rfl)
          simp only [Act.put, List.setIfInBounds_toArray, List.set_cons_zero, List.set_cons_succ]
          refine wpAnyH_take (i := 2) (oi := { dst := some 120, op := Go.Op.move (Go.Operand.tmp 12), type := 31, pos := "law.go:254", after := #[], guard := none }) (v := ?_) rfl (by kernel_rfl) (by kernel_rfl) (by kernel_rfl) (fun _ _ _ h => h) (Or.inl ⟨by rfl, ?_⟩) (by assumption) ?_
          rotate_left
          · intro w' hS; go_simp; (try with_reducible rfl)
          simp only [Act.put, List.setIfInBounds_toArray, List.set_cons_zero, List.set_cons_succ]
          refine wpAnyH_take (i := 5) (oi := { dst := some 123, op := Go.Op.move (Go.Operand.tmp 14), type := 31, pos := "law.go:254", after := #[], guard := none }) (v := ?_) rfl (by kernel_rfl) (by kernel_rfl) (by kernel_rfl) (fun _ _ _ h => h) (Or.inl ⟨by rfl, ?_⟩) (by assumption) ?_
          rotate_left
          · intro w' hS; go_simp; (try with_reducible rfl)
          simp only [Act.put, List.setIfInBounds_toArray, List.set_cons_zero, List.set_cons_succ]
          refine wpAnyH_take (i := 8) (oi := { dst := some 126, op := Go.Op.move (Go.Operand.tmp 21), type := 31, pos := "law.go:254", after := #[], guard := none }) (v := ?_) rfl (by kernel_rfl) (by kernel_rfl) (by kernel_rfl) (fun _ _ _ h => h) (Or.inl ⟨by rfl, ?_⟩) (by assumption) ?_
          rotate_left
          · intro w' hS; go_simp; (try with_reducible rfl)
          simp only [Act.put, List.setIfInBounds_toArray, List.set_cons_zero, List.set_cons_succ]
          refine wpAnyH_take (i := 11) (oi := { dst := some 129, op := Go.Op.move (Go.Operand.tmp 23), type := 31, pos := "law.go:254", after := #[], guard := none }) (v := ?_) rfl (by kernel_rfl) (by kernel_rfl) (by kernel_rfl) (fun _ _ _ h => h) (Or.inl ⟨by rfl, ?_⟩) (by assumption) ?_
          rotate_left
          · intro w' hS; go_simp; (try with_reducible rfl)
          simp only [Act.put, List.setIfInBounds_toArray, List.set_cons_zero, List.set_cons_succ]
          refine wpAnyH_ready (rs := [1]) (by kernel_rfl) (by simp) ?_
          refine AllReadyH.cons rfl (fun K hK => ?_) AllReadyH.nil
          go_simp
          refine (num14_any _ _).mono ?_
          rintro e yy ⟨rfl, rfl⟩
          go_wp2_with fail
          refine hK.out _ _ hH0 (fun hH0 => ?_)
          clear hK K
          refine wpAnyH_ready (rs := [3]) (by kernel_rfl) (by simp) ?_
          refine AllReadyH.cons rfl (fun K hK => ?_) AllReadyH.nil
          go_simp
          refine (num14_any _ _).mono ?_
          rintro e yy ⟨rfl, rfl⟩
          go_wp2_with fail
          refine hK.out _ _ hH0 (fun hH0 => ?_)
          clear hK K
          refine wpAnyH_take (i := 4) (oi := { dst := some 122, op := Go.Op.binOp Go.BinOp.add 3 (Go.Operand.tmp 119) (Go.Operand.tmp 121) 3, type := 3, pos := "law.go:254", after := #[{ on := 1, ground := Go.Ground.data }, { on := 3, ground := Go.Ground.data }], guard := none }) (v := ?_) rfl (by kernel_rfl) (by kernel_rfl) (by kernel_rfl) (fun _ _ _ h => h) (Or.inl ⟨by rfl, ?_⟩) (by assumption) ?_
          rotate_left
          · intro w' hS; go_simp; (try with_reducible rfl)
          simp only [Act.put, List.setIfInBounds_toArray, List.set_cons_zero, List.set_cons_succ]
          refine wpAnyH_ready (rs := [6]) (by kernel_rfl) (by simp) ?_
          refine AllReadyH.cons rfl (fun K hK => ?_) AllReadyH.nil
          go_simp
          refine (num14_any _ _).mono ?_
          rintro e yy ⟨rfl, rfl⟩
          go_wp2_with fail
          refine hK.out _ _ hH0 (fun hH0 => ?_)
          clear hK K
          refine wpAnyH_take (i := 7) (oi := { dst := some 125, op := Go.Op.binOp Go.BinOp.add 3 (Go.Operand.tmp 122) (Go.Operand.tmp 124) 3, type := 3, pos := "law.go:254", after := #[{ on := 4, ground := Go.Ground.data }, { on := 6, ground := Go.Ground.data }], guard := none }) (v := ?_) rfl (by kernel_rfl) (by kernel_rfl) (by kernel_rfl) (fun _ _ _ h => h) (Or.inl ⟨by rfl, ?_⟩) (by assumption) ?_
          rotate_left
          · intro w' hS; go_simp; (try with_reducible rfl)
          simp only [Act.put, List.setIfInBounds_toArray, List.set_cons_zero, List.set_cons_succ]
          refine wpAnyH_ready (rs := [9]) (by kernel_rfl) (by simp) ?_
          refine AllReadyH.cons rfl (fun K hK => ?_) AllReadyH.nil
          go_simp
          refine (num14_any _ _).mono ?_
          rintro e yy ⟨rfl, rfl⟩
          go_wp2_with fail
          refine hK.out _ _ hH0 (fun hH0 => ?_)
          clear hK K
          refine wpAnyH_take (i := 10) (oi := { dst := some 128, op := Go.Op.binOp Go.BinOp.add 3 (Go.Operand.tmp 125) (Go.Operand.tmp 127) 3, type := 3, pos := "law.go:254", after := #[{ on := 7, ground := Go.Ground.data }, { on := 9, ground := Go.Ground.data }], guard := none }) (v := ?_) rfl (by kernel_rfl) (by kernel_rfl) (by kernel_rfl) (fun _ _ _ h => h) (Or.inl ⟨by rfl, ?_⟩) (by assumption) ?_
          rotate_left
          · intro w' hS; go_simp; (try with_reducible rfl)
          simp only [Act.put, List.setIfInBounds_toArray, List.set_cons_zero, List.set_cons_succ]
          refine wpAnyH_ready (rs := [12]) (by kernel_rfl) (by simp) ?_
          refine AllReadyH.cons rfl (fun K hK => ?_) AllReadyH.nil
          go_simp
          refine (num14_any _ _).mono ?_
          rintro e yy ⟨rfl, rfl⟩
          go_wp2_with fail
          refine hK.out _ _ hH0 (fun hH0 => ?_)
          clear hK K
          refine wpAnyH_take (i := 13) (oi := { dst := some 131, op := Go.Op.binOp Go.BinOp.add 3 (Go.Operand.tmp 128) (Go.Operand.tmp 130) 3, type := 3, pos := "law.go:254", after := #[{ on := 10, ground := Go.Ground.data }, { on := 12, ground := Go.Ground.data }], guard := none }) (v := ?_) rfl (by kernel_rfl) (by kernel_rfl) (by kernel_rfl) (fun _ _ _ h => h) (Or.inl ⟨by rfl, ?_⟩) (by assumption) ?_
          rotate_left
          · intro w' hS; go_simp; (try with_reducible rfl)
          simp only [Act.put, List.setIfInBounds_toArray, List.set_cons_zero, List.set_cons_succ]
          refine wpAnyH_take (i := 14) (oi := { dst := some 132, op := Go.Op.binOp Go.BinOp.eql 3 (Go.Operand.tmp 131) (Go.Operand.const (Go.Value.int Go.IntKind.i64 0)) 3, type := 4, pos := "law.go:254", after := #[{ on := 13, ground := Go.Ground.data }], guard := none }) (v := ?_) rfl (by kernel_rfl) (by kernel_rfl) (by kernel_rfl) (fun _ _ _ h => h) (Or.inl ⟨by rfl, ?_⟩) (by assumption) ?_
          rotate_left
          · intro w' hS; go_simp; (try with_reducible rfl)
          simp only [Act.put, List.setIfInBounds_toArray, List.set_cons_zero, List.set_cons_succ]
          refine wpAnyH_take (i := 15) (oi := { dst := some 133, op := Go.Op.move (Go.Operand.tmp 132), type := 4, pos := "law.go:254", after := #[{ on := 14, ground := Go.Ground.data }, { on := 12, ground := Go.Ground.chain }], guard := none }) (v := ?_) rfl (by kernel_rfl) (by kernel_rfl) (by kernel_rfl) (fun _ _ _ h => h) (Or.inl ⟨by rfl, ?_⟩) (by assumption) ?_
          rotate_left
          · intro w' hS; go_simp; (try with_reducible rfl)
          simp only [Act.put, List.setIfInBounds_toArray, List.set_cons_zero, List.set_cons_succ]
          refine wpAnyH_take (i := 16) (oi := { dst := some 134, op := Go.Op.move (Go.Operand.tmp 15), type := 4, pos := "law.go:254", after := #[{ on := 15, ground := Go.Ground.guard }], guard := some (15, true) }) (v := ?_) rfl (by kernel_rfl) (by kernel_rfl) (by kernel_rfl) (fun _ _ _ h => h) (Or.inl ⟨by rfl, ?_⟩) (by assumption) ?_
          rotate_left
          · intro w' hS; go_simp; (try with_reducible rfl)
          simp only [Act.put, List.setIfInBounds_toArray, List.set_cons_zero, List.set_cons_succ]
          refine wpAnyH_take (i := 17) (oi := { dst := some 135, op := Go.Op.move (Go.Operand.tmp 9), type := 3, pos := "law.go:254", after := #[{ on := 15, ground := Go.Ground.guard }], guard := some (15, true) }) (v := ?_) rfl (by kernel_rfl) (by kernel_rfl) (by kernel_rfl) (fun _ _ _ h => h) (Or.inl ⟨by rfl, ?_⟩) (by assumption) ?_
          rotate_left
          · intro w' hS; go_simp; (try with_reducible rfl)
          simp only [Act.put, List.setIfInBounds_toArray, List.set_cons_zero, List.set_cons_succ]
          refine wpAnyH_take (i := 18) (oi := { dst := some 136, op := Go.Op.move (Go.Operand.tmp 11), type := 3, pos := "law.go:254", after := #[{ on := 15, ground := Go.Ground.guard }], guard := some (15, true) }) (v := ?_) rfl (by kernel_rfl) (by kernel_rfl) (by kernel_rfl) (fun _ _ _ h => h) (Or.inl ⟨by rfl, ?_⟩) (by assumption) ?_
          rotate_left
          · intro w' hS; go_simp; (try with_reducible rfl)
          simp only [Act.put, List.setIfInBounds_toArray, List.set_cons_zero, List.set_cons_succ]
          refine wpAnyH_take (i := 19) (oi := { dst := some 137, op := Go.Op.binOp Go.BinOp.eql 3 (Go.Operand.tmp 135) (Go.Operand.tmp 136) 3, type := 4, pos := "law.go:254", after := #[{ on := 17, ground := Go.Ground.data }, { on := 18, ground := Go.Ground.data }, { on := 15, ground := Go.Ground.guard }], guard := some (15, true) }) (v := .bool ((X : Int) == (Y : Int))) rfl (by kernel_rfl) (by kernel_rfl) (by kernel_rfl) (fun _ _ _ h => h) (Or.inl ⟨by rfl, ?_⟩) (by assumption) ?_
          · intro w' hS; exact ex_eqi (a := (X : Int)) (b := (Y : Int)) rfl rfl rfl w'
          simp only [Act.put, List.setIfInBounds_toArray, List.set_cons_zero, List.set_cons_succ]
          refine wpAnyH_take (i := 20) (oi := { dst := some 138, op := Go.Op.binOp Go.BinOp.eql 4 (Go.Operand.tmp 134) (Go.Operand.tmp 137) 4, type := 4, pos := "law.go:254", after := #[{ on := 16, ground := Go.Ground.data }, { on := 19, ground := Go.Ground.data }, { on := 15, ground := Go.Ground.guard }], guard := some (15, true) }) (v := .bool true) rfl (by kernel_rfl) (by kernel_rfl) (by kernel_rfl) (fun _ _ _ h => h) (Or.inl ⟨by rfl, ?_⟩) (by assumption) ?_
          · intro w' hS; exact (ex_eqb rfl rfl rfl w').trans (by simp)
          simp only [Act.put, List.setIfInBounds_toArray, List.set_cons_zero, List.set_cons_succ]
          refine wpAnyH_take (i := 21) (oi := { dst := some 139, op := Go.Op.pick (Go.Operand.tmp 133) (Go.Operand.tmp 138) (Go.Operand.const (Go.Value.bool false)), type := 4, pos := "law.go:254", after := #[{ on := 15, ground := Go.Ground.data }, { on := 20, ground := Go.Ground.data }], guard := none }) (v := ?_) rfl (by kernel_rfl) (by kernel_rfl) (by kernel_rfl) (fun _ _ _ h => h) (Or.inl ⟨by rfl, ?_⟩) (by assumption) ?_
          rotate_left
          · intro w' hS; go_simp; (try with_reducible rfl)
          simp only [Act.put, List.setIfInBounds_toArray, List.set_cons_zero, List.set_cons_succ]
          refine wpAnyH_take (i := 22) (oi := { dst := some 140, op := Go.Op.move (Go.Operand.tmp 139), type := 4, pos := "law.go:254", after := #[{ on := 21, ground := Go.Ground.data }, { on := 15, ground := Go.Ground.chain }], guard := none }) (v := ?_) rfl (by kernel_rfl) (by kernel_rfl) (by kernel_rfl) (fun _ _ _ h => h) (Or.inl ⟨by rfl, ?_⟩) (by assumption) ?_
          rotate_left
          · intro w' hS; go_simp; (try with_reducible rfl)
          simp only [Act.put, List.setIfInBounds_toArray, List.set_cons_zero, List.set_cons_succ]
          refine wpAnyH_take (i := 23) (oi := { dst := some 141, op := Go.Op.load 40 (Go.Operand.tmp 20), type := 40, pos := "law.go:254", after := #[{ on := 22, ground := Go.Ground.guard }], guard := some (22, true) }) (v := .agg (tC lp)) rfl (by kernel_rfl) (by kernel_rfl) (by kernel_rfl) (fun _ _ _ h => h) (Or.inl ⟨by rfl, ?_⟩) (by assumption) ?_
          · intro w' hS; exact ex_load_row rfl rfl (lv_tr (hS.k.get (b := x4.heap.size) (l := lp) (by simp)))
          simp only [Act.put, List.setIfInBounds_toArray, List.set_cons_zero, List.set_cons_succ]
          refine wpAnyH_take (i := 24) (oi := { dst := some 142, op := Go.Op.load 40 (Go.Operand.tmp 19), type := 40, pos := "law.go:254", after := #[{ on := 22, ground := Go.Ground.guard }], guard := some (22, true) }) (v := .agg (tC lp)) rfl (by kernel_rfl) (by kernel_rfl) (by kernel_rfl) (fun _ _ _ h => h) (Or.inl ⟨by rfl, ?_⟩) (by assumption) ?_
          · intro w' hS; exact ex_load_row rfl rfl (lv_tr (hS.k.get (b := x3.heap.size) (l := lp) (by simp)))
          simp only [Act.put, List.setIfInBounds_toArray, List.set_cons_zero, List.set_cons_succ]
          refine wpAnyH_take (i := 25) (oi := { dst := some 143, op := Go.Op.binOp Go.BinOp.eql 40 (Go.Operand.tmp 141) (Go.Operand.tmp 142) 40, type := 4, pos := "law.go:254", after := #[{ on := 23, ground := Go.Ground.data }, { on := 24, ground := Go.Ground.data }, { on := 22, ground := Go.Ground.guard }], guard := some (22, true) }) (v := .bool true) rfl (by kernel_rfl) (by kernel_rfl) (by kernel_rfl) (fun _ _ _ h => h) (Or.inl ⟨by rfl, ?_⟩) (by assumption) ?_
          · intro w' hS; exact (ex_eql_tr (l := lp) (m := lp) rfl rfl rfl w').trans (by rw [HSL.out])
          simp only [Act.put, List.setIfInBounds_toArray, List.set_cons_zero, List.set_cons_succ]
          refine wpAnyH_take (i := 26) (oi := { dst := some 144, op := Go.Op.pick (Go.Operand.tmp 140) (Go.Operand.tmp 143) (Go.Operand.const (Go.Value.bool false)), type := 4, pos := "law.go:254", after := #[{ on := 22, ground := Go.Ground.data }, { on := 25, ground := Go.Ground.data }], guard := none }) (v := ?_) rfl (by kernel_rfl) (by kernel_rfl) (by kernel_rfl) (fun _ _ _ h => h) (Or.inl ⟨by rfl, ?_⟩) (by assumption) ?_
          rotate_left
          · intro w' hS; go_simp; (try with_reducible rfl)
          simp only [Act.put, List.setIfInBounds_toArray, List.set_cons_zero, List.set_cons_succ]
          refine wpAnyH_take (i := 27) (oi := { dst := some 145, op := Go.Op.move (Go.Operand.tmp 144), type := 4, pos := "law.go:254", after := #[{ on := 26, ground := Go.Ground.data }, { on := 22, ground := Go.Ground.chain }], guard := none }) (v := ?_) rfl (by kernel_rfl) (by kernel_rfl) (by kernel_rfl) (fun _ _ _ h => h) (Or.inl ⟨by rfl, ?_⟩) (by assumption) ?_
          rotate_left
          · intro w' hS; go_simp; (try with_reducible rfl)
          simp only [Act.put, List.setIfInBounds_toArray, List.set_cons_zero, List.set_cons_succ]
          refine wpAnyH_take (i := 28) (oi := { dst := some 146, op := Go.Op.move (Go.Operand.tmp 22), type := 4, pos := "law.go:254", after := #[{ on := 27, ground := Go.Ground.guard }], guard := some (27, true) }) (v := ?_) rfl (by kernel_rfl) (by kernel_rfl) (by kernel_rfl) (fun _ _ _ h => h) (Or.inl ⟨by rfl, ?_⟩) (by assumption) ?_
          rotate_left
          · intro w' hS; go_simp; (try with_reducible rfl)
          simp only [Act.put, List.setIfInBounds_toArray, List.set_cons_zero, List.set_cons_succ]
          refine wpAnyH_take (i := 29) (oi := { dst := some 147, op := Go.Op.fieldAddr 25 (Go.Operand.tmp 3) 2, type := 0, pos := "law.go:254", after := #[{ on := 27, ground := Go.Ground.guard }], guard := some (27, true) }) (v := ?_) rfl (by kernel_rfl) (by kernel_rfl) (by kernel_rfl) (fun _ _ _ h => h) (Or.inl ⟨by rfl, ?_⟩) (by assumption) ?_
          rotate_left
          · intro w' hS; go_simp; (try with_reducible rfl)
          simp only [Act.put, List.setIfInBounds_toArray, List.set_cons_zero, List.set_cons_succ]
          refine wpAnyH_take (i := 30) (oi := { dst := some 148, op := Go.Op.load 23 (Go.Operand.tmp 147), type := 23, pos := "law.go:254", after := #[{ on := 29, ground := Go.Ground.data }, { on := 27, ground := Go.Ground.guard }], guard := some (27, true) }) (v := .slice (some ⟨ga, oa, none⟩) A.ac.length ca) rfl (by kernel_rfl) (by kernel_rfl) (by kernel_rfl) (fun _ _ _ h => h) (Or.inl ⟨by rfl, ?_⟩) (by assumption) ?_
          · intro w' hS; exact ex_ld1 rfl rfl (hS.row 2)
          simp only [Act.put, List.setIfInBounds_toArray, List.set_cons_zero, List.set_cons_succ]
          refine wpAnyH_take (i := 31) (oi := { dst := some 149, op := Go.Op.load 25 (Go.Operand.tmp 3), type := 25, pos := "law.go:254", after := #[{ on := 27, ground := Go.Ground.guard }], guard := some (27, true) }) (v := .agg #[.int .i64 A.k, .slice an A.nx.length cn, .slice (some ⟨ga, oa, none⟩) A.ac.length ca]) rfl (by kernel_rfl) (by kernel_rfl) (by kernel_rfl) (fun _ _ _ h => h) (Or.inl ⟨by rfl, ?_⟩) (by assumption) ?_
          · intro w' hS; exact ex_load_row rfl rfl (lv_auto hS.blk)
          simp only [Act.put, List.setIfInBounds_toArray, List.set_cons_zero, List.set_cons_succ]
          refine wpAnyH_take (i := 32) (oi := { dst := some 150, op := Go.Op.move (Go.Operand.tmp 1), type := 9, pos := "law.go:254", after := #[{ on := 27, ground := Go.Ground.guard }], guard := some (27, true) }) (v := ?_) rfl (by kernel_rfl) (by kernel_rfl) (by kernel_rfl) (fun _ _ _ h => h) (Or.inl ⟨by rfl, ?_⟩) (by assumption) ?_
          rotate_left
          · intro w' hS; go_simp; (try with_reducible rfl)
          simp only [Act.put, List.setIfInBounds_toArray, List.set_cons_zero, List.set_cons_succ]
          refine wpAnyH_ready (rs := [33]) (by kernel_rfl) (by simp) ?_
          refine AllReadyH.cons rfl (fun K hK => ?_) AllReadyH.nil
          go_simp
          refine (HG0.out _ hH0.k.below).mono ?_
          rintro e y1 ⟨rfl, hB⟩
          have hN := hH0.call hB
          clear hB
          go_wp2_with fail
          refine hK.out _ _ hN (fun hH1 => ?_)
          clear hN
          clear hK K
          refine wpAnyH_take (i := 34) (oi := { dst := some 152, op := Go.Op.indexAddr 23 (Go.Operand.tmp 148) (Go.Operand.tmp 151), type := 0, pos := "law.go:254", after := #[{ on := 30, ground := Go.Ground.data }, { on := 33, ground := Go.Ground.data }, { on := 27, ground := Go.Ground.guard }], guard := some (27, true) }) (v := .pointer (some ⟨ga, oa + g0, none⟩)) rfl (by kernel_rfl) (by kernel_rfl) (by kernel_rfl) (fun _ _ _ h => h) (Or.inl ⟨by rfl, ?_⟩) (by assumption) ?_
          · intro w' hS; exact ex_idb rfl rfl rfl HG0l.out w'
          simp only [Act.put, List.setIfInBounds_toArray, List.set_cons_zero, List.set_cons_succ]
          refine wpAnyH_take (i := 35) (oi := { dst := some 153, op := Go.Op.load 4 (Go.Operand.tmp 152), type := 4, pos := "law.go:254", after := #[{ on := 34, ground := Go.Ground.data }, { on := 27, ground := Go.Ground.guard }], guard := some (27, true) }) (v := .bool b0) rfl (by kernel_rfl) (by kernel_rfl) (by kernel_rfl) (fun _ _ _ h => h) (Or.inl ⟨by rfl, ?_⟩) (by assumption) ?_
          · intro w' hS; exact ex_ldb rfl rfl (CA0.out w' hS.k.below)
          simp only [Act.put, List.setIfInBounds_toArray, List.set_cons_zero, List.set_cons_succ]
          refine wpAnyH_take (i := 36) (oi := { dst := some 154, op := Go.Op.binOp Go.BinOp.eql 4 (Go.Operand.tmp 146) (Go.Operand.tmp 153) 4, type := 4, pos := "law.go:254", after := #[{ on := 28, ground := Go.Ground.data }, { on := 35, ground := Go.Ground.data }, { on := 27, ground := Go.Ground.guard }], guard := some (27, true) }) (v := .bool true) rfl (by kernel_rfl) (by kernel_rfl) (by kernel_rfl) (fun _ _ _ h => h) (Or.inl ⟨by rfl, ?_⟩) (by assumption) ?_
          · intro w' hS; exact (ex_eqb rfl rfl rfl w').trans (by simp)
          simp only [Act.put, List.setIfInBounds_toArray, List.set_cons_zero, List.set_cons_succ]
          refine wpAnyH_take (i := 37) (oi := { dst := some 155, op := Go.Op.pick (Go.Operand.tmp 145) (Go.Operand.tmp 154) (Go.Operand.const (Go.Value.bool false)), type := 4, pos := "law.go:254", after := #[{ on := 27, ground := Go.Ground.data }, { on := 36, ground := Go.Ground.data }], guard := none }) (v := ?_) rfl (by kernel_rfl) (by kernel_rfl) (by kernel_rfl) (fun _ _ _ h => h) (Or.inl ⟨by rfl, ?_⟩) (by assumption) ?_
          rotate_left
          · intro w' hS; go_simp; (try with_reducible rfl)
          simp only [Act.put, List.setIfInBounds_toArray, List.set_cons_zero, List.set_cons_succ]
          refine wpAnyH_take (i := 38) (oi := { dst := some 156, op := Go.Op.move (Go.Operand.tmp 155), type := 4, pos := "law.go:254", after := #[{ on := 37, ground := Go.Ground.data }, { on := 33, ground := Go.Ground.chain }], guard := none }) (v := ?_) rfl (by kernel_rfl) (by kernel_rfl) (by kernel_rfl) (fun _ _ _ h => h) (Or.inl ⟨by rfl, ?_⟩) (by assumption) ?_
          rotate_left
          · intro w' hS; go_simp; (try with_reducible rfl)
          simp only [Act.put, List.setIfInBounds_toArray, List.set_cons_zero, List.set_cons_succ]
          refine wpAnyH_ready (rs := [39]) (by kernel_rfl) (by simp) ?_
          refine AllReadyH.cons rfl (fun K hK => ?_) AllReadyH.nil
          go_simp
          refine (live14_any _).mono ?_
          rintro e y2 ⟨rfl, hB⟩
          have hN := hH1.call hB
          clear hB
          go_wp2_with fail
          refine hK.out _ _ hN (fun hH2 => ?_)
          clear hN
          clear hK K
          refine wpAnyH_take (i := 40) (oi := { dst := some 158, op := Go.Op.pick (Go.Operand.tmp 156) (Go.Operand.tmp 157) (Go.Operand.const (Go.Value.bool false)), type := 4, pos := "law.go:254", after := #[{ on := 38, ground := Go.Ground.data }, { on := 39, ground := Go.Ground.data }], guard := none }) (v := ?_) rfl (by kernel_rfl) (by kernel_rfl) (by kernel_rfl) (fun _ _ _ h => h) (Or.inl ⟨by rfl, ?_⟩) (by assumption) ?_
          rotate_left
          · intro w' hS; go_simp; (try with_reducible rfl)
          simp only [Act.put, List.setIfInBounds_toArray, List.set_cons_zero, List.set_cons_succ]
          refine wpAnyH_take (i := 41) (oi := { dst := some 6, op := Go.Op.assign (Go.Operand.tmp 158), type := 4, pos := "law.go:254", after := #[{ on := 40, ground := Go.Ground.data }, { on := 39, ground := Go.Ground.chain }, { on := 0, ground := Go.Ground.phase }, { on := 1, ground := Go.Ground.phase }, { on := 2, ground := Go.Ground.phase }, { on := 3, ground := Go.Ground.phase }, { on := 4, ground := Go.Ground.phase }, { on := 5, ground := Go.Ground.phase }, { on := 6, ground := Go.Ground.phase }, { on := 7, ground := Go.Ground.phase }, { on := 8, ground := Go.Ground.phase }, { on := 9, ground := Go.Ground.phase }, { on := 10, ground := Go.Ground.phase }, { on := 11, ground := Go.Ground.phase }, { on := 12, ground := Go.Ground.phase }, { on := 13, ground := Go.Ground.phase }, { on := 14, ground := Go.Ground.phase }, { on := 15, ground := Go.Ground.phase }, { on := 16, ground := Go.Ground.phase }, { on := 17, ground := Go.Ground.phase }, { on := 18, ground := Go.Ground.phase }, { on := 19, ground := Go.Ground.phase }, { on := 20, ground := Go.Ground.phase }, { on := 21, ground := Go.Ground.phase }, { on := 22, ground := Go.Ground.phase }, { on := 23, ground := Go.Ground.phase }, { on := 24, ground := Go.Ground.phase }, { on := 25, ground := Go.Ground.phase }, { on := 26, ground := Go.Ground.phase }, { on := 27, ground := Go.Ground.phase }, { on := 28, ground := Go.Ground.phase }, { on := 29, ground := Go.Ground.phase }, { on := 30, ground := Go.Ground.phase }, { on := 31, ground := Go.Ground.phase }, { on := 32, ground := Go.Ground.phase }, { on := 33, ground := Go.Ground.phase }, { on := 34, ground := Go.Ground.phase }, { on := 35, ground := Go.Ground.phase }, { on := 36, ground := Go.Ground.phase }, { on := 37, ground := Go.Ground.phase }, { on := 38, ground := Go.Ground.phase }, { on := 39, ground := Go.Ground.phase }, { on := 40, ground := Go.Ground.phase }], guard := none }) (v := ?_) rfl (by kernel_rfl) (by kernel_rfl) (by kernel_rfl) (fun _ _ _ h => h) (Or.inl ⟨by rfl, ?_⟩) (by assumption) ?_
          rotate_left
          · intro w' hS; go_simp; (try with_reducible rfl)
          simp only [Act.put, List.setIfInBounds_toArray, List.set_cons_zero, List.set_cons_succ]
          refine wpAnyH_done (by kernel_rfl) ?_ _
          go_wp2_with fail
          go_ret
          exact ⟨rfl, hH2.k.below⟩
    · obtain ⟨E, hEE⟩ : ∃ E, chk A.k (u ++ v) = E := ⟨_, rfl⟩
      rw [hEE] at hc ⊢
      have hq0 : (E != 0) = true := by rw [bne_iff_ne]; exact hc
      clear hEE
      go_wp2_with fail
      refine (live14_any _).mono ?_
      rintro e w3 ⟨rfl, hb⟩
      have HS3 : Hid (SK [] W #[.int .i64 A.k, .slice an A.nx.length cn, .slice (some ⟨ga, oa, none⟩) A.ac.length ca] w3) := HS2.out.call hb
      clear hb
      go_wp2_with fail
      go_ret
      exact ⟨rfl, HS3.out.k.below⟩

/-! ### The row's step -/
theorem own : ownKnob Try.prog.godebug = none := by kernel_rfl
set_option maxRecDepth 100000 in
theorem lifted (os : Os) (started : os.Started) (H : Type) (enc : TypeId × Value → H) :
    ReturnsInHanded {} Try.checked os 3 .any (Rows.monoidMadeSpec.pre6 enc Try.prog Try.f3 Rows.monoidMadeRow.domain false) (Rows.monoidMadeSpec.post enc Try.prog Try.f3 false true false false) := by
  refine returnsInHanded_of_change_sized (C := Try.checked) own started (by kernel_rfl) Try.func3
    (ChangeSpec.witness6 (enc := enc) (C := Try.checked) false ⟨#[], #[.agg #[.int .i64 0, .slice none 0 0, .slice none 0 0], .string ByteArray.empty, .string ByteArray.empty], []⟩ 8 (by kernel_rfl) (by kernel_rfl) (by kernel_rfl) (by kernel_rfl)) ?_
  intro W base args ds gs before hval0 hW hcnd hsz0 _
  have hval : ∀ (j : Nat) t v, Try.f3.params[j]? = some t → args[j]? = some v → Value.okWide Try.prog W .any base t v := hval0
  clear hval0
  have hsz : (DataW.weightsEach Try.prog (Try.f3.params.toList ++ Rows.monoidMadeSpec.plain.varTypes Try.prog) (ds ++ gs)).all (· ≤ reachBytes) = true := hsz0
  clear hsz0
  have hW' := hW
  obtain ⟨p, q, hA0, hV, rfl, hfz, hnd⟩ := hW
  have hA : DataW.TrodAll enc Try.prog W 0 (fun _ => true) true Try.f3.params.toList args.toList ds p := hA0
  rw [Try.params3] at hA hval hsz
  obtain ⟨v0, vs0, d0, ds0, p0, q0, hargs, rfl, rfl, h0, r0⟩ := trodAll_cons hA
  obtain ⟨v1, vs1, d1, ds1, p1, q1, rfl, rfl, rfl, h1, r1⟩ := trodAll_cons r0
  obtain ⟨v2, vs2, d2, ds2, p2, q2, rfl, rfl, rfl, h2, r2⟩ := trodAll_cons r1
  obtain ⟨rfl, rfl, rfl⟩ := trodAll_nil r2
  obtain rfl : args = #[v0, v1, v2] := by cases args; simp_all
  obtain ⟨rfl, rfl⟩ := trodVars_none hV
  obtain ⟨a0, x0, n0, w0, dk0, dn0, da0, e0, y0, z0⟩ := open_auto (hval 0 25 v0 rfl rfl) h0
  have b0 := auto_bounds hsz (j := 0) rfl (by rw [e0]; rfl) y0 z0
  have g0 : ∀ x ∈ p0, x.block < W.heap.size := fun x hx => hW'.lt x (by simp [hx])
  obtain ⟨a1, rfl, rfl, rfl, w1⟩ := open_string Try.underlying9 (hval 1 9 v1 rfl rfl) h1
  have u1 : a1.size ≤ 140737488355327 := by
    have := sized_string hsz (j := 1) (t := 9) rfl rfl
    have e : a1.data.toList.length = a1.size := rfl
    simp only [reachBytes] at this
    omega
  obtain ⟨a2, rfl, rfl, rfl, w2⟩ := open_string Try.underlying9 (hval 2 9 v2 rfl rfl) h2
  have u2 : a2.size ≤ 140737488355327 := by
    have := sized_string hsz (j := 2) (t := 9) rfl rfl
    have e : a2.data.toList.length = a2.size := rfl
    simp only [reachBytes] at this
    omega
  clear hA0
  refine (walk v0 a0 a1 a2 W x0 n0 b0.1 b0.2 u1 u2).mono fun e W' ⟨he, bel⟩ => ?_
  subst he
  exact ⟨_, rfl, _, _, _, [], _, [], hW', trodAll_mk1 (shut_bool Try.underlying4 _), (trodAll_cons_mk (Below.trod Try.laidOut (by kernel_rfl) (of_decide_eq_true (by kernel_rfl)) h0 bel g0) (trodAll_cons_mk (shut_string Try.underlying9 w1) (trodAll_cons_mk (shut_string Try.underlying9 w2) trodAll_mk0))), rfl, bel.frame _, fun h => by cases h⟩

theorem over : Rows.monoidMadeRow.holds Try.pinned (OpenSpec.ofChange Rows.monoidMadeSpec) :=
  OpenClaim.holds_of_wide 3 Try.f3 rfl rfl rfl rfl rfl rfl rfl ⟨rfl, rfl, rfl, rfl, rfl⟩ rfl rfl rfl rfl rfl (by kernel_rfl) Try.func3 (by kernel_rfl)
    (of_decide_eq_true (by kernel_rfl)) (by unfold Func.isWrapper; first | (rw [if_pos (by decide +kernel)]; kernel_rfl) | (rw [if_neg (by decide +kernel)]; exact ⟨rfl, rfl⟩))
    (fun os started H enc _ => lifted os started H enc)

end Go.Proofs.Ythmnoepjkobcmab.monoidMade
namespace Go.Proofs.Ythmnoepjkobcmab
/-- The given statement. -/
theorem monoidMade_holds : Rows.MonoidMadeSaid := monoidMade.over
end Go.Proofs.Ythmnoepjkobcmab
