/- Proved: eggboxlaw14.MonoidSyntactic answers true at every automaton's data a and all words u, v, x, y (P14.9): where the minimal automaton's monoid is built and the words are over its letters, words of one element are not told apart by the context of x and y, and words of unlike elements are told apart by some context; and the law's own automaton has the monoid that the law names. No condition. -/
import Derived.Test.YthmnoepjkobcmabE25
import Derived.Test.YthmnoepjkobcmabE26
import Derived.Test.YthmnoepjkobcmabE28
import Derived.Test.YthmnoepjkobcmabW6
import Derived.SizedLaws
namespace Go.Proofs.Ythmnoepjkobcmab.monoidSyntactic
open Go Go.ChangeShapes Go.WideShapes Go.ChangeAt Go.RowKit Go.Lib
open Go.ChangeMaps (open_string shut_string)
set_option linter.unusedVariables false
attribute [-instance] List.instBEq instBEqProd

/-- What the walk keeps. -/
structure SY (W : World) (bn ob : Nat) (arr arB : Array Value) (B : Aut) (M : List (List Nat)) (N : List Nat) (w : World) : Prop where
  below : Below W.heap.size W w
  blkA : w.heap[W.heap.size]? = some (.cells arr 25 (0, 0))
  blk : w.heap[bn]? = some (.cells arB 25 (0, 0))
  ar : AR w (.agg arB) B
  mo : MO w ob B M N
theorem SY.call {W w w' : World} {bn ob : Nat} {arr arB : Array Value} {B : Aut} {M : List (List Nat)} {N : List Nat} (h : SY W bn ob arr arB B M N w) (hb : Below w.heap.size w w') : SY W bn ob arr arB B M N w' :=
  ⟨go_on h.below hb, (hb.block _ (Array.getElem?_eq_some_iff.1 h.blkA).1).trans h.blkA, (hb.block _ (Array.getElem?_eq_some_iff.1 h.blk).1).trans h.blk, h.ar.stay hb, h.mo.below hb⟩
theorem SY.drew {W w : World} {bn ob : Nat} {arr arB : Array Value} {B : Aut} {M : List (List Nat)} {N : List Nat} (h : SY W bn ob arr arB B M N w) : SY W bn ob arr arB B M N w.drew := h.call (Below.refl _ _).drew
theorem SY.row {W w : World} {bn ob : Nat} {arr arB : Array Value} {B : Aut} {M : List (List Nat)} {N : List Nat} (h : SY W bn ob arr arB B M N w) : ∀ q, w.cell? ⟨bn, q, none⟩ = arB[q]? := fun q => cell_of_row _ _ _ _ _ _ h.blk
theorem SY.rowA {W w : World} {bn ob : Nat} {arr arB : Array Value} {B : Aut} {M : List (List Nat)} {N : List Nat} (h : SY W bn ob arr arB B M N w) : ∀ q, w.cell? ⟨W.heap.size, q, none⟩ = arr[q]? := fun q => cell_of_row _ _ _ _ _ _ h.blkA
theorem SY.acc {W w : World} {bn ob : Nat} {arr : Array Value} {B : Aut} {M : List (List Nat)} {N : List Nat} {n1 : Option Addr} {c1 c2 gb qb : Nat} (h : SY W bn ob arr #[.int .i64 B.k, .slice n1 B.nx.length c1, .slice (some ⟨gb, qb, none⟩) B.ac.length c2] B M N w) {i : Nat} (hi : i < B.ac.length) : w.cell? ⟨gb, qb + i, none⟩ = some (.bool (B.ac.getD i false)) := by
  obtain ⟨an, cn, aa, ca, e, _, k2⟩ := h.ar.is
  simp only [Value.agg.injEq, Array.mk.injEq, List.cons.injEq, Value.slice.injEq, true_and, and_true] at e
  obtain ⟨_, rfl, _⟩ := e
  obtain ⟨g', o', e', _, hc'⟩ := k2.bool hi
  simp only [Option.some.injEq, Addr.mk.injEq] at e'
  obtain ⟨rfl, rfl, _⟩ := e'
  exact hc'
theorem lv_auto {w : World} {b : Nat} {x y z : Value} (h : w.heap[b]? = some (.cells #[x, y, z] 25 (0, 0))) : (loadVar 25 ⟨b, 0, none⟩).run Try.prog w = .ok (.agg #[x, y, z]) w := run_loadVar_row w b 25 25 _ (0, 0) _ h Try.underlying25 rfl (by rw [Try.info_au]; rfl)
theorem ex_ld1 {ev : Operand → Value} {o : Oper} {x : Operand} {a : Addr} {v : Value} {w : World} (ho : o.op = .load 23 x) (hx : ev x = .pointer (some a)) (hc : w.cell? a = some v) : (execOp ev o).run Try.prog w = .ok (.value v) w := by
  unfold execOp
  simp only [ho, hx]
  go_simp
theorem ex_ldb {ev : Operand → Value} {o : Oper} {x : Operand} {a : Addr} {v : Value} {w : World} (ho : o.op = .load 4 x) (hx : ev x = .pointer (some a)) (hc : w.cell? a = some v) : (execOp ev o).run Try.prog w = .ok (.value v) w := by
  unfold execOp
  simp only [ho, hx]
  go_simp
theorem ex_idb {ev : Operand → Value} {o : Oper} {x y : Operand} {g q n cap i : Nat} (ho : o.op = .indexAddr 23 x y) (hx : ev x = .slice (some ⟨g, q, none⟩) n cap) (hy : ev y = .int .i64 (i : Int)) (hi : i < n) (w : World) : (execOp ev o).run Try.prog w = .ok (.value (.pointer (some ⟨g, q + i, none⟩))) w := by
  unfold execOp
  have h1 : (i : Int) < n := by omega
  simp only [ho, hx, hy]
  go_simp
theorem ex_eqb {ev : Operand → Value} {o : Oper} {x y : Operand} {a b : Bool} {ty : TypeId} (ho : o.op = .binOp .eql 4 x y ty) (hx : ev x = .bool a) (hy : ev y = .bool b) (w : World) : (execOp ev o).run Try.prog w = .ok (.value (.bool (a == b))) w := by
  unfold execOp
  simp only [ho, hx, hy]
  go_simp
theorem ex_neb {ev : Operand → Value} {o : Oper} {x y : Operand} {a b : Bool} {ty : TypeId} (ho : o.op = .binOp .neq 4 x y ty) (hx : ev x = .bool a) (hy : ev y = .bool b) (w : World) : (execOp ev o).run Try.prog w = .ok (.value (.bool (a != b))) w := by
  unfold execOp
  simp only [ho, hx, hy]
  go_simp
  cases a <;> cases b <;> rfl
theorem ex_adds {ev : Operand → Value} {o : Oper} {x y : Operand} {a b : ByteArray} {ty : TypeId} (ho : o.op = .binOp .add 9 x y ty) (hx : ev x = .string a) (hy : ev y = .string b) (h : a.size + b.size ≤ 9223372036854775807) (w : World) : (execOp ev o).run Try.prog w = .ok (.value (.string (a ++ b))) w := by
  unfold execOp
  have h' : ¬ 9223372036854775807 < a.size + b.size := by omega
  simp only [ho, hx, hy]
  go_simp

set_option maxHeartbeats 8000000 in
set_option maxRecDepth 100000 in
theorem walk (va : Value) (A : Aut) (u v x y : ByteArray) (W : World) (ha : AR W va A) (hna : NilOk va) (hma : (A.nx.length + 2) * 8 ≤ 140737488355328) (hma2 : A.ac.length ≤ 140737488355328) (hu : u.size ≤ 140737488355327) (hv : v.size ≤ 140737488355327) (hx : x.size ≤ 140737488355327) (hy : y.size ≤ 140737488355327) :
    Calls Try.prog 4 #[va, .string u, .string v, .string x, .string y] W fun e w' => e = .returned (.bool true) ∧ Below W.heap.size W w' := by
  obtain ⟨an, cn, aa, ca, ea, _, _⟩ := ha.is
  have HAA : Hid (∀ y, Below W.heap.size W y → AR y va A) := fun y hy => ha.stay hy
  subst ea
  have HMN : Hid (∀ z, Below W.heap.size W z → Calls Try.prog 15 #[.agg #[.int .i64 A.k, .slice an A.nx.length cn, .slice aa A.ac.length ca]] z (MQ (mnA A) (mnT A) (chkA A) z)) := fun z hz => minimal_any _ A z (HAA.out z hz) (by omega) (by omega)
  obtain ⟨w0, hw0⟩ : ∃ w0, w0 = W.alloc (.cells #[.int .i64 A.k, .slice an A.nx.length cn, .slice aa A.ac.length ca] 25) := ⟨_, rfl⟩
  have HB0 : Hid (Below W.heap.size W w0) := by show Below _ _ _; rw [hw0]; exact below_new _ _
  have HK0 : Hid (w0.heap[W.heap.size]? = some (.cells #[.int .i64 A.k, .slice an A.nx.length cn, .slice aa A.ac.length ca] 25 (0, 0))) := by show _ = _; rw [hw0]; exact heap_last _ _
  have HW0 : Hid (w0 = W.alloc (.cells #[.int .i64 A.k, .slice an A.nx.length cn, .slice aa A.ac.length ca] 25)) := hw0
  have hs1 : u.size + v.size ≤ 9223372036854775807 := by omega
  have hs1' : ¬ 9223372036854775807 < u.size + v.size := by omega
  have hs2 : u.size + v.size + x.size ≤ 9223372036854775807 := by omega
  have hs2' : ¬ 9223372036854775807 < u.size + v.size + x.size := by omega
  have hs3 : u.size + v.size + x.size + y.size ≤ 9223372036854775807 := by omega
  have hs3' : ¬ 9223372036854775807 < u.size + v.size + x.size + y.size := by omega
  have HCK : Hid (∀ z, Calls Try.prog 6 #[.int .i64 A.k, .string (u ++ v ++ x ++ y)] z fun e w' => e = .returned (.int .i64 (chk A.k (u ++ v ++ x ++ y))) ∧ Below z.heap.size z w') := fun z => rcheck_any A.k _ z (by rw [ByteArray.size_append, ByteArray.size_append, ByteArray.size_append]; unfold maxLen; omega)
  have HSZ : Hid (u.size ≤ 140737488355327 ∧ v.size ≤ 140737488355327 ∧ x.size ≤ 140737488355327 ∧ y.size ≤ 140737488355327) := ⟨hu, hv, hx, hy⟩
  clear ha hna hma hma2 hu hv hx hy hw0
  go_enter Try.func4, Try.ntmps4
  go_wp2_with fail
  rw [← HW0.out]
  refine (HMN.out _ HB0.out).mono ?_
  rintro e w1 ⟨v1, vt, rfl, hao, hrow, hb⟩
  obtain ⟨B, hB⟩ : ∃ B, mnA A = B := ⟨_, rfl⟩
  rw [hB] at hao
  have hAR := hao.ar
  obtain ⟨n1, c1, a1, c2, e1, _, k2⟩ := hAR.is
  subst e1
  obtain ⟨w2, hw2⟩ : ∃ w2, w2 = w1.alloc (.cells #[.int .i64 B.k, .slice n1 B.nx.length c1, .slice a1 B.ac.length c2] 25) := ⟨_, rfl⟩
  have HB2 : Hid (Below W.heap.size W w2) := by show Below _ _ _; rw [hw2]; exact go_on (go_on HB0.out hb) (below_new _ _)
  have HK2 : Hid (w2.heap[W.heap.size]? = some (.cells #[.int .i64 A.k, .slice an A.nx.length cn, .slice aa A.ac.length ca] 25 (0, 0))) := by
    show _ = _
    have q1 := (hb.block _ (Array.getElem?_eq_some_iff.1 HK0.out).1).trans HK0.out
    rw [hw2]
    exact (heap_allo (Array.getElem?_eq_some_iff.1 q1).1 _).trans q1
  have HN2 : Hid (w2.heap[w1.heap.size]? = some (.cells #[.int .i64 B.k, .slice n1 B.nx.length c1, .slice a1 B.ac.length c2] 25 (0, 0))) := by show _ = _; rw [hw2]; exact heap_last _ _
  have HAR2 : Hid (AR w2 (.agg #[.int .i64 B.k, .slice n1 B.nx.length c1, .slice a1 B.ac.length c2]) B) := by show AR _ _ _; rw [hw2]; exact hAR.stay (below_new _ _)
  have HW2 : Hid (w2 = w1.alloc (.cells #[.int .i64 B.k, .slice n1 B.nx.length c1, .slice a1 B.ac.length c2] 25)) := hw2
  have HBE : Hid (mnA A = B) := hB
  obtain ⟨bn, hbn⟩ : ∃ bn, w1.heap.size = bn := ⟨_, rfl⟩
  have HBN : Hid (w1.heap.size = bn) := hbn
  rw [hbn] at HN2
  clear hw2 hB hAR hao hrow hb HK0 hbn k2
  go_wp2_with fail
  rw [← HW2.out]
  simp only [HBN.out]
  by_cases hchk : chkA A = 0
  · have G : Good A := chkA_good hchk
    have HG : Hid (Good A) := G
    obtain ⟨gB, gk, gl⟩ := good_mn G
    rw [HBE.out] at gB gk gl
    have HGB : Hid (Good B) := gB
    have hkA : Hid (B.k = A.k) := gk
    have hBl : B.nx.length ≤ 100000 ∧ B.ac.length ≤ 4096 := by
      have h1 := gB.n2
      have h2 := gB.len
      have h3 : (B.ac.length : Int) * B.k ≤ 4096 * 8 := Int.mul_le_mul (by omega) gB.k8 (by have := gB.k1; omega) (by omega)
      omega
    have HBT : Hid (∀ z, AR z (.agg #[.int .i64 B.k, .slice n1 B.nx.length c1, .slice a1 B.ac.length c2]) B → Calls Try.prog 5 #[.agg #[.int .i64 B.k, .slice n1 B.nx.length c1, .slice a1 B.ac.length c2]] z (BtQ B z)) := fun z hz => built_any _ B z hz (by omega) (by omega)
    obtain ⟨gb, qb, rfl, _, _⟩ : ∃ g o, a1 = some ⟨g, o, none⟩ ∧ True ∧ True := by
      obtain ⟨_, _, _, _, e, _, k⟩ := HAR2.out.is
      simp only [Value.agg.injEq, Array.mk.injEq, List.cons.injEq, Value.slice.injEq, true_and, and_true] at e
      obtain ⟨_, rfl, _⟩ := e
      obtain ⟨g, o, e, _, _⟩ := k.bool (i := 0) (by have := gB.n1; omega)
      exact ⟨g, o, e, trivial, trivial⟩
    rw [hchk]
    have cs : ∀ q, w2.cell? ⟨bn, q, none⟩ = (#[.int .i64 B.k, .slice n1 B.nx.length c1, .slice (some ⟨gb, qb, none⟩) B.ac.length c2] : Array Value)[q]? := fun q => cell_of_row _ _ _ _ _ _ HN2.out
    clear G gB gk gl hchk hBl HMN
    go_wp2_with (first | (go_at_call 10; refine (num14_any _ _).mono ?_; rintro e yn ⟨rfl, hyn⟩; subst yn))
    refine (HBT.out _ HAR2.out).mono ?_
    rintro e w3 (⟨rfl, hb⟩ | ⟨ob, M, N, rfl, _, h64, hE, hmo, hb⟩)
    · have HB3 : Hid (Below W.heap.size W w3) := go_on HB2.out hb
      clear hb
      go_wp2_with fail
      refine (live14_any _).mono ?_
      rintro e w4 ⟨rfl, hb⟩
      have HB4 : Hid (Below W.heap.size W w4) := go_on HB3.out hb
      clear hb
      go_wp2_with fail
      go_ret
      exact ⟨rfl, HB4.out⟩
    · have HS3 : Hid (SY W bn ob #[.int .i64 A.k, .slice an A.nx.length cn, .slice aa A.ac.length ca] #[.int .i64 B.k, .slice n1 B.nx.length c1, .slice (some ⟨gb, qb, none⟩) B.ac.length c2] B M N w3) := ⟨go_on HB2.out hb, (hb.block _ (Array.getElem?_eq_some_iff.1 HK2.out).1).trans HK2.out, (hb.block _ (Array.getElem?_eq_some_iff.1 HN2.out).1).trans HN2.out, HAR2.out.stay hb, hmo⟩
      have HMon : Hid (Mon B M N) := mon_of HGB.out h64 hE
      have H64 : Hid (B.ac.length ≤ 64) := h64
      have csA := HS3.out.rowA
      clear hb hmo hE h64 cs HBT HB2 HK2 HN2 HAR2
      go_wp2_with fail
      refine (HCK.out _).mono ?_
      rintro e w4 ⟨rfl, hb⟩
      have HS4 : Hid (SY W bn ob #[.int .i64 A.k, .slice an A.nx.length cn, .slice aa A.ac.length ca] #[.int .i64 B.k, .slice n1 B.nx.length c1, .slice (some ⟨gb, qb, none⟩) B.ac.length c2] B M N w4) := HS3.out.call hb
      clear hb csA HS3
      by_cases hc : chk A.k (u ++ v ++ x ++ y) = 0
      · have hk1 := HGB.out.k1
        have hk8 := HGB.out.k8
        rw [← hkA.out] at hc
        obtain ⟨hc1, hyc⟩ := (chk_app B.k hk1 hk8 _ _).1 hc
        obtain ⟨hc2, hxc⟩ := (chk_app B.k hk1 hk8 _ _).1 hc1
        obtain ⟨huc, hvc⟩ := (chk_app B.k hk1 hk8 _ _).1 hc2
        have HU : Hid (Lt B.k.toNat (lets u)) := (chk_all huc).ltn hk1
        have HV : Hid (Lt B.k.toNat (lets v)) := (chk_all hvc).ltn hk1
        have HUV : Hid (chk B.k u = 0 ∧ chk B.k v = 0 ∧ chk B.k x = 0 ∧ chk B.k y = 0) := ⟨huc, hvc, hxc, hyc⟩
        have hn0 : 0 < B.ac.length := by have := HGB.out.n1; omega
        obtain ⟨X, hX⟩ : ∃ X, mr B.k.toNat N 0 (lets u) = X := ⟨_, rfl⟩
        obtain ⟨Y, hY⟩ : ∃ Y, mr B.k.toNat N 0 (lets v) = Y := ⟨_, rfl⟩
        have C1 : Hid (∀ z, MO z ob B M N → Calls Try.prog 8 #[.pointer (some ⟨ob, 0, none⟩), .string u] z fun e w' => e = .returned (.tuple #[.int .i64 (X : Nat), .int .i64 0]) ∧ Below z.heap.size z w') := fun z hz => by
          have := mElement_any hz u (by have := HSZ.out.1; omega)
          unfold elV at this
          rw [if_pos huc, hX] at this
          exact this
        have C2 : Hid (∀ z, MO z ob B M N → Calls Try.prog 8 #[.pointer (some ⟨ob, 0, none⟩), .string v] z fun e w' => e = .returned (.tuple #[.int .i64 (Y : Nat), .int .i64 0]) ∧ Below z.heap.size z w') := fun z hz => by
          have := mElement_any hz v (by have := HSZ.out.2.1; omega)
          unfold elV at this
          rw [if_pos hvc, hY] at this
          exact this
        have HGO : Hid (∀ z (s : Nat) (b : ByteArray), AR z (.agg #[.int .i64 B.k, .slice n1 B.nx.length c1, .slice (some ⟨gb, qb, none⟩) B.ac.length c2]) B → s < B.ac.length → chk B.k b = 0 → b.size ≤ 9223372036854775807 → Calls Try.prog 11 #[.agg #[.int .i64 B.k, .slice n1 B.nx.length c1, .slice (some ⟨gb, qb, none⟩) B.ac.length c2], .int .i64 (s : Int), .string b] z fun e w' => e = .returned (.int .i64 (goN B s (lets b) : Nat)) ∧ Below z.heap.size z w') := fun z s b hz hs hb hl => rgo_any _ B z hz HGB.out s hs b (chk_all hb) hl
        have HN0 : Hid (0 < B.ac.length) := hn0
        have HXY : Hid (mr B.k.toNat N 0 (lets u) = X ∧ mr B.k.toNat N 0 (lets v) = Y) := ⟨hX, hY⟩
        rw [hkA.out] at hc
        rw [hc]
        clear hc hc1 hc2 huc hvc hxc hyc hX hY hk1 hk8 hn0
        go_wp2_with fail
        refine (C1.out _ HS4.out.mo).mono ?_
        rintro e w5 ⟨rfl, hb⟩
        have HS5 : Hid (SY W bn ob #[.int .i64 A.k, .slice an A.nx.length cn, .slice aa A.ac.length ca] #[.int .i64 B.k, .slice n1 B.nx.length c1, .slice (some ⟨gb, qb, none⟩) B.ac.length c2] B M N w5) := HS4.out.call hb
        clear hb HS4
        go_wp2_with fail
        refine (C2.out _ HS5.out.mo).mono ?_
        rintro e w6 ⟨rfl, hb⟩
        have HS6 : Hid (SY W bn ob #[.int .i64 A.k, .slice an A.nx.length cn, .slice aa A.ac.length ca] #[.int .i64 B.k, .slice n1 B.nx.length c1, .slice (some ⟨gb, qb, none⟩) B.ac.length c2] B M N w6) := HS5.out.call hb
        clear hb HS5
        by_cases hXY : X = Y
        · have HGE : Hid (goN B 0 (lets (x ++ u ++ y)) = goN B 0 (lets (x ++ v ++ y))) := by
            show _ = _
            have e := HXY.out
            have hact : act B (lets u) = act B (lets v) := (HMon.out.same HU.out HV.out).1 (by rw [e.1, e.2, hXY])
            have hq : goN B 0 (lets x) < B.ac.length := goW_lt HGB.out HN0.out HUV.out.2.2.1
            rw [lets_app, lets_app, lets_app, lets_app, goN_app, goN_app, goN_app, goN_app]
            congr 1
            rw [← act_im B _ hq, hact, act_im B _ hq]
          have hcU : chk B.k (x ++ u ++ y) = 0 := (chk_app B.k HGB.out.k1 HGB.out.k8 _ _).2 ⟨(chk_app B.k HGB.out.k1 HGB.out.k8 _ _).2 ⟨HUV.out.2.2.1, HUV.out.1⟩, HUV.out.2.2.2⟩
          have hcV : chk B.k (x ++ v ++ y) = 0 := (chk_app B.k HGB.out.k1 HGB.out.k8 _ _).2 ⟨(chk_app B.k HGB.out.k1 HGB.out.k8 _ _).2 ⟨HUV.out.2.2.1, HUV.out.2.1⟩, HUV.out.2.2.2⟩
          have hz1 : x.size + u.size ≤ 9223372036854775807 := by have := HSZ.out; omega
          have hz2 : (x ++ u).size + y.size ≤ 9223372036854775807 := by have := HSZ.out; rw [ByteArray.size_append]; omega
          have hz3 : x.size + v.size ≤ 9223372036854775807 := by have := HSZ.out; omega
          have hz4 : (x ++ v).size + y.size ≤ 9223372036854775807 := by have := HSZ.out; rw [ByteArray.size_append]; omega
          have HZ : Hid (x.size + u.size ≤ 9223372036854775807 ∧ (x ++ u).size + y.size ≤ 9223372036854775807 ∧ x.size + v.size ≤ 9223372036854775807 ∧ (x ++ v).size + y.size ≤ 9223372036854775807) := ⟨hz1, hz2, hz3, hz4⟩
          have hgl : goN B 0 (lets (x ++ u ++ y)) < B.ac.length := goW_lt HGB.out HN0.out hcU
          obtain ⟨g0, hg0⟩ : ∃ g0, goN B 0 (lets (x ++ u ++ y)) = g0 := ⟨_, rfl⟩
          rw [hg0] at HGE hgl
          have D1 : Hid (∀ z, AR z (.agg #[.int .i64 B.k, .slice n1 B.nx.length c1, .slice (some ⟨gb, qb, none⟩) B.ac.length c2]) B → Calls Try.prog 11 #[.agg #[.int .i64 B.k, .slice n1 B.nx.length c1, .slice (some ⟨gb, qb, none⟩) B.ac.length c2], .int .i64 0, .string (x ++ u ++ y)] z fun e w' => e = .returned (.int .i64 (g0 : Nat)) ∧ Below z.heap.size z w') := fun z hz => by
            have := HGO.out z 0 _ hz HN0.out hcU (by rw [ByteArray.size_append]; exact hz2)
            rw [hg0] at this
            exact this
          have D2 : Hid (∀ z, AR z (.agg #[.int .i64 B.k, .slice n1 B.nx.length c1, .slice (some ⟨gb, qb, none⟩) B.ac.length c2]) B → Calls Try.prog 11 #[.agg #[.int .i64 B.k, .slice n1 B.nx.length c1, .slice (some ⟨gb, qb, none⟩) B.ac.length c2], .int .i64 0, .string (x ++ v ++ y)] z fun e w' => e = .returned (.int .i64 (g0 : Nat)) ∧ Below z.heap.size z w') := fun z hz => by
            have := HGO.out z 0 _ hz HN0.out hcV (by rw [ByteArray.size_append]; exact hz4)
            rw [← HGE.out] at this
            exact this
          have HGL : Hid (g0 < B.ac.length) := hgl
          subst hXY
          clear hcU hcV hz1 hz2 hz3 hz4 hgl hg0 HXY
          go_wp2_with (first | (go_at_call 10; refine (num14_any _ _).mono ?_; rintro e yn ⟨rfl, hyn⟩; subst yn))
          refine wp_region_held_drew (S := fun w' => SY W bn ob #[.int .i64 A.k, .slice an A.nx.length cn, .slice aa A.ac.length ca] #[.int .i64 B.k, .slice n1 B.nx.length c1, .slice (some ⟨gb, qb, none⟩) B.ac.length c2] B M N w') (by kernel_rfl) HS6.out.drew (fun hH0 => ?_)
          generalize w6.drew = y0 at hH0 ⊢
          refine wpAnyH_take (i := 0) (oi := { dst := some 81, op := Go.Op.fieldAddr 25 (Go.Operand.tmp 11) 2, type := 0, pos := "law.go:273", after := #[], guard := none }) (v := ?_) rfl (by kernel_rfl) (by kernel_rfl) (by kernel_rfl) (fun _ _ _ h => h) (Or.inl ⟨by rfl, ?_⟩) (by assumption) ?_
          rotate_left
          · intro w' hS; go_simp; (try with_reducible rfl)
          simp only [Act.put, List.setIfInBounds_toArray, List.set_cons_zero, List.set_cons_succ]
          refine wpAnyH_take (i := 1) (oi := { dst := some 82, op := Go.Op.load 23 (Go.Operand.tmp 81), type := 23, pos := "law.go:273", after := #[{ on := 0, ground := Go.Ground.data }], guard := none }) (v := .slice (some ⟨gb, qb, none⟩) B.ac.length c2) rfl (by kernel_rfl) (by kernel_rfl) (by kernel_rfl) (fun _ _ _ h => h) (Or.inl ⟨by rfl, ?_⟩) (by assumption) ?_
          · intro w' hS; exact ex_ld1 rfl rfl (hS.row 2)
          simp only [Act.put, List.setIfInBounds_toArray, List.set_cons_zero, List.set_cons_succ]
          refine wpAnyH_take (i := 2) (oi := { dst := some 83, op := Go.Op.load 25 (Go.Operand.tmp 11), type := 25, pos := "law.go:273", after := #[], guard := none }) (v := .agg #[.int .i64 B.k, .slice n1 B.nx.length c1, .slice (some ⟨gb, qb, none⟩) B.ac.length c2]) rfl (by kernel_rfl) (by kernel_rfl) (by kernel_rfl) (fun _ _ _ h => h) (Or.inl ⟨by rfl, ?_⟩) (by assumption) ?_
          · intro w' hS; exact ex_load_row rfl rfl (lv_auto hS.blk)
          simp only [Act.put, List.setIfInBounds_toArray, List.set_cons_zero, List.set_cons_succ]
          refine wpAnyH_take (i := 3) (oi := { dst := some 84, op := Go.Op.move (Go.Operand.tmp 3), type := 9, pos := "law.go:273", after := #[], guard := none }) (v := ?_) rfl (by kernel_rfl) (by kernel_rfl) (by kernel_rfl) (fun _ _ _ h => h) (Or.inl ⟨by rfl, ?_⟩) (by assumption) ?_
          rotate_left
          · intro w' hS; go_simp; (try with_reducible rfl)
          simp only [Act.put, List.setIfInBounds_toArray, List.set_cons_zero, List.set_cons_succ]
          refine wpAnyH_take (i := 4) (oi := { dst := some 85, op := Go.Op.move (Go.Operand.tmp 1), type := 9, pos := "law.go:273", after := #[], guard := none }) (v := ?_) rfl (by kernel_rfl) (by kernel_rfl) (by kernel_rfl) (fun _ _ _ h => h) (Or.inl ⟨by rfl, ?_⟩) (by assumption) ?_
          rotate_left
          · intro w' hS; go_simp; (try with_reducible rfl)
          simp only [Act.put, List.setIfInBounds_toArray, List.set_cons_zero, List.set_cons_succ]
          refine wpAnyH_take (i := 5) (oi := { dst := some 86, op := Go.Op.binOp Go.BinOp.add 9 (Go.Operand.tmp 84) (Go.Operand.tmp 85) 9, type := 9, pos := "law.go:273", after := #[{ on := 3, ground := Go.Ground.data }, { on := 4, ground := Go.Ground.data }], guard := none }) (v := .string (x ++ u)) rfl (by kernel_rfl) (by kernel_rfl) (by kernel_rfl) (fun _ _ _ h => h) (Or.inl ⟨by rfl, ?_⟩) (by assumption) ?_
          · intro w' hS; exact ex_adds (a := x) (b := u) rfl rfl rfl HZ.out.1 w'
          simp only [Act.put, List.setIfInBounds_toArray, List.set_cons_zero, List.set_cons_succ]
          refine wpAnyH_take (i := 6) (oi := { dst := some 87, op := Go.Op.move (Go.Operand.tmp 4), type := 9, pos := "law.go:273", after := #[], guard := none }) (v := ?_) rfl (by kernel_rfl) (by kernel_rfl) (by kernel_rfl) (fun _ _ _ h => h) (Or.inl ⟨by rfl, ?_⟩) (by assumption) ?_
          rotate_left
          · intro w' hS; go_simp; (try with_reducible rfl)
          simp only [Act.put, List.setIfInBounds_toArray, List.set_cons_zero, List.set_cons_succ]
          refine wpAnyH_take (i := 7) (oi := { dst := some 88, op := Go.Op.binOp Go.BinOp.add 9 (Go.Operand.tmp 86) (Go.Operand.tmp 87) 9, type := 9, pos := "law.go:273", after := #[{ on := 5, ground := Go.Ground.data }, { on := 6, ground := Go.Ground.data }], guard := none }) (v := .string ((x ++ u) ++ y)) rfl (by kernel_rfl) (by kernel_rfl) (by kernel_rfl) (fun _ _ _ h => h) (Or.inl ⟨by rfl, ?_⟩) (by assumption) ?_
          · intro w' hS; exact ex_adds (a := (x ++ u)) (b := y) rfl rfl rfl HZ.out.2.1 w'
          simp only [Act.put, List.setIfInBounds_toArray, List.set_cons_zero, List.set_cons_succ]
          refine wpAnyH_take (i := 11) (oi := { dst := some 92, op := Go.Op.fieldAddr 25 (Go.Operand.tmp 11) 2, type := 0, pos := "law.go:273", after := #[], guard := none }) (v := ?_) rfl (by kernel_rfl) (by kernel_rfl) (by kernel_rfl) (fun _ _ _ h => h) (Or.inl ⟨by rfl, ?_⟩) (by assumption) ?_
          rotate_left
          · intro w' hS; go_simp; (try with_reducible rfl)
          simp only [Act.put, List.setIfInBounds_toArray, List.set_cons_zero, List.set_cons_succ]
          refine wpAnyH_take (i := 12) (oi := { dst := some 93, op := Go.Op.load 23 (Go.Operand.tmp 92), type := 23, pos := "law.go:273", after := #[{ on := 11, ground := Go.Ground.data }], guard := none }) (v := .slice (some ⟨gb, qb, none⟩) B.ac.length c2) rfl (by kernel_rfl) (by kernel_rfl) (by kernel_rfl) (fun _ _ _ h => h) (Or.inl ⟨by rfl, ?_⟩) (by assumption) ?_
          · intro w' hS; exact ex_ld1 rfl rfl (hS.row 2)
          simp only [Act.put, List.setIfInBounds_toArray, List.set_cons_zero, List.set_cons_succ]
          refine wpAnyH_take (i := 13) (oi := { dst := some 94, op := Go.Op.load 25 (Go.Operand.tmp 11), type := 25, pos := "law.go:273", after := #[], guard := none }) (v := .agg #[.int .i64 B.k, .slice n1 B.nx.length c1, .slice (some ⟨gb, qb, none⟩) B.ac.length c2]) rfl (by kernel_rfl) (by kernel_rfl) (by kernel_rfl) (fun _ _ _ h => h) (Or.inl ⟨by rfl, ?_⟩) (by assumption) ?_
          · intro w' hS; exact ex_load_row rfl rfl (lv_auto hS.blk)
          simp only [Act.put, List.setIfInBounds_toArray, List.set_cons_zero, List.set_cons_succ]
          refine wpAnyH_take (i := 14) (oi := { dst := some 95, op := Go.Op.move (Go.Operand.tmp 3), type := 9, pos := "law.go:273", after := #[], guard := none }) (v := ?_) rfl (by kernel_rfl) (by kernel_rfl) (by kernel_rfl) (fun _ _ _ h => h) (Or.inl ⟨by rfl, ?_⟩) (by assumption) ?_
          rotate_left
          · intro w' hS; go_simp; (try with_reducible rfl)
          simp only [Act.put, List.setIfInBounds_toArray, List.set_cons_zero, List.set_cons_succ]
          refine wpAnyH_take (i := 15) (oi := { dst := some 96, op := Go.Op.move (Go.Operand.tmp 2), type := 9, pos := "law.go:273", after := #[], guard := none }) (v := ?_) rfl (by kernel_rfl) (by kernel_rfl) (by kernel_rfl) (fun _ _ _ h => h) (Or.inl ⟨by rfl, ?_⟩) (by assumption) ?_
          rotate_left
          · intro w' hS; go_simp; (try with_reducible rfl)
          simp only [Act.put, List.setIfInBounds_toArray, List.set_cons_zero, List.set_cons_succ]
          refine wpAnyH_take (i := 16) (oi := { dst := some 97, op := Go.Op.binOp Go.BinOp.add 9 (Go.Operand.tmp 95) (Go.Operand.tmp 96) 9, type := 9, pos := "law.go:273", after := #[{ on := 14, ground := Go.Ground.data }, { on := 15, ground := Go.Ground.data }], guard := none }) (v := .string (x ++ v)) rfl (by kernel_rfl) (by kernel_rfl) (by kernel_rfl) (fun _ _ _ h => h) (Or.inl ⟨by rfl, ?_⟩) (by assumption) ?_
          · intro w' hS; exact ex_adds (a := x) (b := v) rfl rfl rfl HZ.out.2.2.1 w'
          simp only [Act.put, List.setIfInBounds_toArray, List.set_cons_zero, List.set_cons_succ]
          refine wpAnyH_take (i := 17) (oi := { dst := some 98, op := Go.Op.move (Go.Operand.tmp 4), type := 9, pos := "law.go:273", after := #[], guard := none }) (v := ?_) rfl (by kernel_rfl) (by kernel_rfl) (by kernel_rfl) (fun _ _ _ h => h) (Or.inl ⟨by rfl, ?_⟩) (by assumption) ?_
          rotate_left
          · intro w' hS; go_simp; (try with_reducible rfl)
          simp only [Act.put, List.setIfInBounds_toArray, List.set_cons_zero, List.set_cons_succ]
          refine wpAnyH_take (i := 18) (oi := { dst := some 99, op := Go.Op.binOp Go.BinOp.add 9 (Go.Operand.tmp 97) (Go.Operand.tmp 98) 9, type := 9, pos := "law.go:273", after := #[{ on := 16, ground := Go.Ground.data }, { on := 17, ground := Go.Ground.data }], guard := none }) (v := .string ((x ++ v) ++ y)) rfl (by kernel_rfl) (by kernel_rfl) (by kernel_rfl) (fun _ _ _ h => h) (Or.inl ⟨by rfl, ?_⟩) (by assumption) ?_
          · intro w' hS; exact ex_adds (a := (x ++ v)) (b := y) rfl rfl rfl HZ.out.2.2.2 w'
          simp only [Act.put, List.setIfInBounds_toArray, List.set_cons_zero, List.set_cons_succ]
          refine wpAnyH_ready (rs := [8]) (by kernel_rfl) (by simp) ?_
          refine AllReadyH.cons rfl (fun K hK => ?_) AllReadyH.nil
          go_simp
          refine (D1.out _ hH0.ar).mono ?_
          rintro e y1 ⟨rfl, hB⟩
          have hN := hH0.call hB
          clear hB
          go_wp2_with fail
          refine hK.out _ _ hN (fun hH1 => ?_)
          clear hN
          clear hK K
          refine wpAnyH_take (i := 9) (oi := { dst := some 90, op := Go.Op.indexAddr 23 (Go.Operand.tmp 82) (Go.Operand.tmp 89), type := 0, pos := "law.go:273", after := #[{ on := 1, ground := Go.Ground.data }, { on := 8, ground := Go.Ground.data }], guard := none }) (v := .pointer (some ⟨gb, qb + g0, none⟩)) rfl (by kernel_rfl) (by kernel_rfl) (by kernel_rfl) (fun _ _ _ h => h) (Or.inl ⟨by rfl, ?_⟩) (by assumption) ?_
          · intro w' hS; exact ex_idb rfl rfl rfl HGL.out w'
          simp only [Act.put, List.setIfInBounds_toArray, List.set_cons_zero, List.set_cons_succ]
          refine wpAnyH_take (i := 10) (oi := { dst := some 91, op := Go.Op.load 4 (Go.Operand.tmp 90), type := 4, pos := "law.go:273", after := #[{ on := 9, ground := Go.Ground.data }], guard := none }) (v := .bool (B.ac.getD g0 false)) rfl (by kernel_rfl) (by kernel_rfl) (by kernel_rfl) (fun _ _ _ h => h) (Or.inl ⟨by rfl, ?_⟩) (by assumption) ?_
          · intro w' hS; exact ex_ldb rfl rfl (hS.acc HGL.out)
          simp only [Act.put, List.setIfInBounds_toArray, List.set_cons_zero, List.set_cons_succ]
          refine wpAnyH_ready (rs := [19]) (by kernel_rfl) (by simp) ?_
          refine AllReadyH.cons rfl (fun K hK => ?_) AllReadyH.nil
          go_simp
          refine (D2.out _ hH1.ar).mono ?_
          rintro e y2 ⟨rfl, hB⟩
          have hN := hH1.call hB
          clear hB
          go_wp2_with fail
          refine hK.out _ _ hN (fun hH2 => ?_)
          clear hN
          clear hK K
          refine wpAnyH_take (i := 20) (oi := { dst := some 101, op := Go.Op.indexAddr 23 (Go.Operand.tmp 93) (Go.Operand.tmp 100), type := 0, pos := "law.go:273", after := #[{ on := 12, ground := Go.Ground.data }, { on := 19, ground := Go.Ground.data }], guard := none }) (v := .pointer (some ⟨gb, qb + g0, none⟩)) rfl (by kernel_rfl) (by kernel_rfl) (by kernel_rfl) (fun _ _ _ h => h) (Or.inl ⟨by rfl, ?_⟩) (by assumption) ?_
          · intro w' hS; exact ex_idb rfl rfl rfl HGL.out w'
          simp only [Act.put, List.setIfInBounds_toArray, List.set_cons_zero, List.set_cons_succ]
          refine wpAnyH_take (i := 21) (oi := { dst := some 102, op := Go.Op.load 4 (Go.Operand.tmp 101), type := 4, pos := "law.go:273", after := #[{ on := 20, ground := Go.Ground.data }], guard := none }) (v := .bool (B.ac.getD g0 false)) rfl (by kernel_rfl) (by kernel_rfl) (by kernel_rfl) (fun _ _ _ h => h) (Or.inl ⟨by rfl, ?_⟩) (by assumption) ?_
          · intro w' hS; exact ex_ldb rfl rfl (hS.acc HGL.out)
          simp only [Act.put, List.setIfInBounds_toArray, List.set_cons_zero, List.set_cons_succ]
          refine wpAnyH_take (i := 22) (oi := { dst := some 103, op := Go.Op.binOp Go.BinOp.eql 4 (Go.Operand.tmp 91) (Go.Operand.tmp 102) 4, type := 4, pos := "law.go:273", after := #[{ on := 10, ground := Go.Ground.data }, { on := 21, ground := Go.Ground.data }], guard := none }) (v := .bool true) rfl (by kernel_rfl) (by kernel_rfl) (by kernel_rfl) (fun _ _ _ h => h) (Or.inl ⟨by rfl, ?_⟩) (by assumption) ?_
          · intro w' hS; exact (ex_eqb rfl rfl rfl w').trans (by simp)
          simp only [Act.put, List.setIfInBounds_toArray, List.set_cons_zero, List.set_cons_succ]
          refine wpAnyH_take (i := 23) (oi := { dst := some 104, op := Go.Op.move (Go.Operand.tmp 103), type := 4, pos := "law.go:273", after := #[{ on := 22, ground := Go.Ground.data }, { on := 19, ground := Go.Ground.chain }], guard := none }) (v := ?_) rfl (by kernel_rfl) (by kernel_rfl) (by kernel_rfl) (fun _ _ _ h => h) (Or.inl ⟨by rfl, ?_⟩) (by assumption) ?_
          rotate_left
          · intro w' hS; go_simp; (try with_reducible rfl)
          simp only [Act.put, List.setIfInBounds_toArray, List.set_cons_zero, List.set_cons_succ]
          refine wpAnyH_ready (rs := [24]) (by kernel_rfl) (by simp) ?_
          refine AllReadyH.cons rfl (fun K hK => ?_) AllReadyH.nil
          go_simp
          refine (live14_any _).mono ?_
          rintro e y3 ⟨rfl, hB⟩
          have hN := hH2.call hB
          clear hB
          go_wp2_with fail
          refine hK.out _ _ hN (fun hH3 => ?_)
          clear hN
          clear hK K
          refine wpAnyH_take (i := 25) (oi := { dst := some 106, op := Go.Op.pick (Go.Operand.tmp 104) (Go.Operand.tmp 105) (Go.Operand.const (Go.Value.bool false)), type := 4, pos := "law.go:273", after := #[{ on := 23, ground := Go.Ground.data }, { on := 24, ground := Go.Ground.data }], guard := none }) (v := ?_) rfl (by kernel_rfl) (by kernel_rfl) (by kernel_rfl) (fun _ _ _ h => h) (Or.inl ⟨by rfl, ?_⟩) (by assumption) ?_
          rotate_left
          · intro w' hS; go_simp; (try with_reducible rfl)
          simp only [Act.put, List.setIfInBounds_toArray, List.set_cons_zero, List.set_cons_succ]
          refine wpAnyH_take (i := 26) (oi := { dst := some 10, op := Go.Op.assign (Go.Operand.tmp 106), type := 4, pos := "law.go:273", after := #[{ on := 25, ground := Go.Ground.data }, { on := 24, ground := Go.Ground.chain }, { on := 0, ground := Go.Ground.phase }, { on := 1, ground := Go.Ground.phase }, { on := 2, ground := Go.Ground.phase }, { on := 3, ground := Go.Ground.phase }, { on := 4, ground := Go.Ground.phase }, { on := 5, ground := Go.Ground.phase }, { on := 6, ground := Go.Ground.phase }, { on := 7, ground := Go.Ground.phase }, { on := 8, ground := Go.Ground.phase }, { on := 9, ground := Go.Ground.phase }, { on := 10, ground := Go.Ground.phase }, { on := 11, ground := Go.Ground.phase }, { on := 12, ground := Go.Ground.phase }, { on := 13, ground := Go.Ground.phase }, { on := 14, ground := Go.Ground.phase }, { on := 15, ground := Go.Ground.phase }, { on := 16, ground := Go.Ground.phase }, { on := 17, ground := Go.Ground.phase }, { on := 18, ground := Go.Ground.phase }, { on := 19, ground := Go.Ground.phase }, { on := 20, ground := Go.Ground.phase }, { on := 21, ground := Go.Ground.phase }, { on := 22, ground := Go.Ground.phase }, { on := 23, ground := Go.Ground.phase }, { on := 24, ground := Go.Ground.phase }, { on := 25, ground := Go.Ground.phase }], guard := none }) (v := ?_) rfl (by kernel_rfl) (by kernel_rfl) (by kernel_rfl) (fun _ _ _ h => h) (Or.inl ⟨by rfl, ?_⟩) (by assumption) ?_
          rotate_left
          · intro w' hS; go_simp; (try with_reducible rfl)
          simp only [Act.put, List.setIfInBounds_toArray, List.set_cons_zero, List.set_cons_succ]
          refine wpAnyH_done (by kernel_rfl) ?_ _
          go_wp2_with fail
          go_ret
          exact ⟨rfl, hH3.below⟩
        · have hXYb : ((X : Int) == (Y : Int)) = false := by rw [beq_eq_false_iff_ne]; omega
          have hXYi : ¬ (X : Int) = (Y : Int) := by omega
          have HNE : Hid (mr B.k.toNat N 0 (lets u) ≠ mr B.k.toNat N 0 (lets v)) := by have e := HXY.out; rw [e.1, e.2]; exact hXY
          have HMS : Hid (M.length ≤ 512) := HMon.out.most
          clear hXY HXY
          go_wp2_with (first | (go_at_call 10; refine (num14_any _ _).mono ?_; rintro e yn ⟨rfl, hyn⟩; subst yn))
          go_loopw [19, 20, 21, 22, 23, 24, 25, 26] (fun vi _ _ _ _ _ _ _ wr => ∃ i : Nat, vi = .int .i64 i ∧ i ≤ M.length ∧ (∀ q, q < i → goN B 0 (lw B.k.toNat N q ++ lets u) = goN B 0 (lw B.k.toNat N q ++ lets v)) ∧ SY W bn ob #[.int .i64 A.k, .slice an A.nx.length cn, .slice aa A.ac.length ca] #[.int .i64 B.k, .slice n1 B.nx.length c1, .slice (some ⟨gb, qb, none⟩) B.ac.length c2] B M N wr) (fun vi _ _ _ _ _ _ _ _ => M.length - (Go.Lib.intOf vi).toNat)
          case atStart => exact ⟨0, rfl, Nat.zero_le _, fun q hq => absurd hq (by omega), HS6.out⟩
          case round =>
            obtain ⟨i, rfl, hil, hall, hs⟩ := hrel
            have HS : Hid (SY W bn ob #[.int .i64 A.k, .slice an A.nx.length cn, .slice aa A.ac.length ca] #[.int .i64 B.k, .slice n1 B.nx.length c1, .slice (some ⟨gb, qb, none⟩) B.ac.length c2] B M N wr) := hs
            have HALL : Hid (∀ q, q < i → goN B 0 (lw B.k.toNat N q ++ lets u) = goN B 0 (lw B.k.toNat N q ++ lets v)) := hall
            have hms := HMS.out
            clear hs hall
            by_cases hlt : i < M.length
            · have hiI : (i : Int) < M.length := by omega
              have HLT : Hid (i < M.length) := hlt
              have hlw := HMon.out.lw i hlt
              obtain ⟨U, hU⟩ : ∃ U, wb (lw B.k.toNat N i) = U := ⟨_, rfl⟩
              have hUl : lets U = lw B.k.toNat N i := by rw [← hU]; exact lets_wb (k := B.k.toNat) (by have := HGB.out.k8; omega) hlw.1
              have hUc : chk B.k U = 0 := by rw [← hU]; exact (wb_lts HGB.out.k1 HGB.out.k8 hlw.1).2
              have hUs : U.size ≤ 512 := by rw [← hU, wb_size]; have := lw_len HMon.out.fst i hlt; omega
              have hcU : chk B.k (U ++ u) = 0 := (chk_app B.k HGB.out.k1 HGB.out.k8 _ _).2 ⟨hUc, HUV.out.1⟩
              have hcV : chk B.k (U ++ v) = 0 := (chk_app B.k HGB.out.k1 HGB.out.k8 _ _).2 ⟨hUc, HUV.out.2.1⟩
              have hz1 : U.size + u.size ≤ 9223372036854775807 := by have := HSZ.out; omega
              have hz1' : ¬ 9223372036854775807 < U.size + u.size := by omega
              have hz3 : U.size + v.size ≤ 9223372036854775807 := by have := HSZ.out; omega
              have hz3' : ¬ 9223372036854775807 < U.size + v.size := by omega
              have C3 : Hid (∀ z, MO z ob B M N → Calls Try.prog 17 #[.pointer (some ⟨ob, 0, none⟩), .int .i64 (i : Nat)] z fun e w' => e = .returned (.tuple #[.string U, .int .i64 0]) ∧ Below z.heap.size z w') := fun z hz => by
                have := mword_ok hz i HLT.out
                rw [hU] at this
                exact this
              obtain ⟨s, hs⟩ : ∃ s, goN B 0 (lets (U ++ u)) = s := ⟨_, rfl⟩
              obtain ⟨t, ht⟩ : ∃ t, goN B 0 (lets (U ++ v)) = t := ⟨_, rfl⟩
              have hsl : s < B.ac.length := by rw [← hs]; exact goW_lt HGB.out HN0.out hcU
              have htl : t < B.ac.length := by rw [← ht]; exact goW_lt HGB.out HN0.out hcV
              have D1 : Hid (∀ z, AR z (.agg #[.int .i64 B.k, .slice n1 B.nx.length c1, .slice (some ⟨gb, qb, none⟩) B.ac.length c2]) B → Calls Try.prog 11 #[.agg #[.int .i64 B.k, .slice n1 B.nx.length c1, .slice (some ⟨gb, qb, none⟩) B.ac.length c2], .int .i64 0, .string (U ++ u)] z fun e w' => e = .returned (.int .i64 (s : Nat)) ∧ Below z.heap.size z w') := fun z hz => by
                have := HGO.out z 0 _ hz HN0.out hcU (by rw [ByteArray.size_append]; exact hz1)
                rw [hs] at this
                exact this
              have D2 : Hid (∀ z, AR z (.agg #[.int .i64 B.k, .slice n1 B.nx.length c1, .slice (some ⟨gb, qb, none⟩) B.ac.length c2]) B → Calls Try.prog 11 #[.agg #[.int .i64 B.k, .slice n1 B.nx.length c1, .slice (some ⟨gb, qb, none⟩) B.ac.length c2], .int .i64 0, .string (U ++ v)] z fun e w' => e = .returned (.int .i64 (t : Nat)) ∧ Below z.heap.size z w') := fun z hz => by
                have := HGO.out z 0 _ hz HN0.out hcV (by rw [ByteArray.size_append]; exact hz3)
                rw [ht] at this
                exact this
              have HST : Hid (goN B 0 (lw B.k.toNat N i ++ lets u) = s ∧ goN B 0 (lw B.k.toNat N i ++ lets v) = t) := by
                rw [← hUl, ← lets_app, ← lets_app]
                exact ⟨hs, ht⟩
              have HTL : Hid (s < B.ac.length ∧ t < B.ac.length) := ⟨hsl, htl⟩
              clear hlw hU hUl hUc hs ht hcU hcV hsl htl hms
              go_wp2_with fail
              refine (mlen_any HS.out.mo).mono ?_
              rintro e wl ⟨rfl, hq⟩
              subst hq
              go_wp2_with fail
              refine (C3.out _ HS.out.mo).mono ?_
              rintro e x1 ⟨rfl, hb⟩
              have HX1 : Hid (SY W bn ob #[.int .i64 A.k, .slice an A.nx.length cn, .slice aa A.ac.length ca] #[.int .i64 B.k, .slice n1 B.nx.length c1, .slice (some ⟨gb, qb, none⟩) B.ac.length c2] B M N x1) := HS.out.call hb
              have cs1 := HX1.out.row
              clear hb
              go_wp2_with fail
              refine (D1.out _ HX1.out.ar).mono ?_
              rintro e x2 ⟨rfl, hb⟩
              have HX2 : Hid (SY W bn ob #[.int .i64 A.k, .slice an A.nx.length cn, .slice aa A.ac.length ca] #[.int .i64 B.k, .slice n1 B.nx.length c1, .slice (some ⟨gb, qb, none⟩) B.ac.length c2] B M N x2) := HX1.out.call hb
              have cs2 := HX2.out.row
              clear hb cs1
              go_wp2_with fail
              refine (D2.out _ HX2.out.ar).mono ?_
              rintro e x3 ⟨rfl, hb⟩
              have HX3 : Hid (SY W bn ob #[.int .i64 A.k, .slice an A.nx.length cn, .slice aa A.ac.length ca] #[.int .i64 B.k, .slice n1 B.nx.length c1, .slice (some ⟨gb, qb, none⟩) B.ac.length c2] B M N x3) := HX2.out.call hb
              have cs3 := HX3.out.row
              clear hb cs2
              by_cases hst : s = t
              · have hstb : ((s : Int) != (t : Int)) = false := by rw [bne_eq_false_iff_eq]; omega
                have hsti : (s : Int) = (t : Int) := by omega
                have HN : Hid (∀ q, q < i + 1 → goN B 0 (lw B.k.toNat N q ++ lets u) = goN B 0 (lw B.k.toNat N q ++ lets v)) := fun q hq => by
                  by_cases e : q = i
                  · subst e; rw [HST.out.1, HST.out.2, hst]
                  · exact HALL.out q (by omega)
                subst hst
                clear hsti
                have hms := HMS.out
                have hlt2 := HLT.out
                go_wp2_with fail
                go_roundw
                case rel => exact ⟨i + 1, by go_num, HLT.out, HN.out, HX3.out⟩
                case measure => have := HLT.out; simp [Go.Lib.intOf]; omega
              · have hstb : ((s : Int) != (t : Int)) = true := by rw [bne_iff_ne]; omega
                obtain ⟨z, hzk, hzn, hzo, hze⟩ := syn_apart HG.out HBE.out HTL.out.1 HTL.out.2 hst
                have hwz := wB_lts HGB.out.k1 HGB.out.k8 hzk
                have hlz : lets (wB z) = z := lets_wB (k := B.k.toNat) (by have := HGB.out.k8; omega) hzk
                have hgs : goN B s (lets (wB z)) < B.ac.length := goW_lt HGB.out HTL.out.1 hwz.2
                have hgt : goN B t (lets (wB z)) < B.ac.length := goW_lt HGB.out HTL.out.2 hwz.2
                have hzz : B.ac.getD (goN B s (lets (wB z))) false ≠ B.ac.getD (goN B t (lets (wB z))) false := by rw [hlz]; exact hzn
                have HDF : Hid (∀ z', AR z' (.agg #[.int .i64 B.k, .slice n1 B.nx.length c1, .slice (some ⟨gb, qb, none⟩) B.ac.length c2]) B → Calls Try.prog 18 #[.agg #[.int .i64 B.k, .slice n1 B.nx.length c1, .slice (some ⟨gb, qb, none⟩) B.ac.length c2], .int .i64 (s : Int), .int .i64 (t : Int)] z' fun e w' => e = .returned (.tuple #[.string (wB z), .bool true, .int .i64 0]) ∧ z.length < B.ac.length ∧ Below z'.heap.size z' w') := fun z' hz' => by
                  refine (mdiffer_any _ B z' hz' (by have := HGB.out.n2; have := HGB.out.len; have h3 : (B.ac.length : Int) * B.k ≤ 4096 * 8 := Int.mul_le_mul (by omega) HGB.out.k8 (by have := HGB.out.k1; omega) (by omega); omega) (by have := HGB.out.n2; omega) s t).mono ?_
                  rintro e w' ⟨rfl, h1, h2⟩
                  have := h1 z hzo
                  rw [hzo, hze]
                  exact ⟨rfl, this, h2⟩
                obtain ⟨Z, hZ⟩ : ∃ Z, wB z = Z := ⟨_, rfl⟩
                have hZs : Z.size = z.length := by rw [← hZ]; exact wB_size z
                have hZc : chk B.k Z = 0 := by rw [← hZ]; exact hwz.2
                rw [hZ] at hgs hgt hzz HDF
                obtain ⟨p1, hp1⟩ : ∃ p1, goN B s (lets Z) = p1 := ⟨_, rfl⟩
                obtain ⟨p2, hp2⟩ : ∃ p2, goN B t (lets Z) = p2 := ⟨_, rfl⟩
                have E1 : Hid (∀ z', z.length < B.ac.length → AR z' (.agg #[.int .i64 B.k, .slice n1 B.nx.length c1, .slice (some ⟨gb, qb, none⟩) B.ac.length c2]) B → Calls Try.prog 11 #[.agg #[.int .i64 B.k, .slice n1 B.nx.length c1, .slice (some ⟨gb, qb, none⟩) B.ac.length c2], .int .i64 (s : Int), .string Z] z' fun e w' => e = .returned (.int .i64 (p1 : Nat)) ∧ Below z'.heap.size z' w') := fun z' hl hz' => by
                  have := HGO.out z' s _ hz' HTL.out.1 hZc (by have := H64.out; omega)
                  rw [hp1] at this
                  exact this
                have E2 : Hid (∀ z', z.length < B.ac.length → AR z' (.agg #[.int .i64 B.k, .slice n1 B.nx.length c1, .slice (some ⟨gb, qb, none⟩) B.ac.length c2]) B → Calls Try.prog 11 #[.agg #[.int .i64 B.k, .slice n1 B.nx.length c1, .slice (some ⟨gb, qb, none⟩) B.ac.length c2], .int .i64 (t : Int), .string Z] z' fun e w' => e = .returned (.int .i64 (p2 : Nat)) ∧ Below z'.heap.size z' w') := fun z' hl hz' => by
                  have := HGO.out z' t _ hz' HTL.out.2 hZc (by have := H64.out; omega)
                  rw [hp2] at this
                  exact this
                rw [hp1] at hgs hzz
                rw [hp2] at hgt hzz
                have HP : Hid (p1 < B.ac.length ∧ p2 < B.ac.length) := ⟨hgs, hgt⟩
                obtain ⟨b1, hb1⟩ : ∃ b1, B.ac.getD p1 false = b1 := ⟨_, rfl⟩
                obtain ⟨b2, hb2⟩ : ∃ b2, B.ac.getD p2 false = b2 := ⟨_, rfl⟩
                have HBB : Hid ((b1 != b2) = true) := by show _ = _; rw [bne_iff_ne, ← hb1, ← hb2]; exact hzz
                have HCA : Hid (∀ w', SY W bn ob #[.int .i64 A.k, .slice an A.nx.length cn, .slice aa A.ac.length ca] #[.int .i64 B.k, .slice n1 B.nx.length c1, .slice (some ⟨gb, qb, none⟩) B.ac.length c2] B M N w' → w'.cell? ⟨gb, qb + p1, none⟩ = some (.bool b1) ∧ w'.cell? ⟨gb, qb + p2, none⟩ = some (.bool b2)) := fun w' h => by
                  have h1 := h.acc HP.out.1
                  have h2 := h.acc HP.out.2
                  rw [hb1] at h1
                  rw [hb2] at h2
                  exact ⟨h1, h2⟩
                clear hzk hzn hzo hze hwz hlz hgs hgt hzz hZs hZc hp1 hp2 hb1 hb2 hZ
                go_wp2_with fail
                refine (HDF.out _ HX3.out.ar).mono ?_
                rintro e x4 ⟨rfl, hzl, hb⟩
                have HX4 : Hid (SY W bn ob #[.int .i64 A.k, .slice an A.nx.length cn, .slice aa A.ac.length ca] #[.int .i64 B.k, .slice n1 B.nx.length c1, .slice (some ⟨gb, qb, none⟩) B.ac.length c2] B M N x4) := HX3.out.call hb
                have HZL : Hid (z.length < B.ac.length) := hzl
                clear hb cs3 hzl
                go_wp2_with fail
                refine wp_region_held_drew (S := fun w' => SY W bn ob #[.int .i64 A.k, .slice an A.nx.length cn, .slice aa A.ac.length ca] #[.int .i64 B.k, .slice n1 B.nx.length c1, .slice (some ⟨gb, qb, none⟩) B.ac.length c2] B M N w') (by kernel_rfl) HX4.out.drew (fun hH0 => ?_)
                generalize x4.drew = y0 at hH0 ⊢
                refine wpAnyH_take (i := 0) (oi := { dst := some 140, op := Go.Op.move (Go.Operand.tmp 26), type := 31, pos := "law.go:281", after := #[], guard := none }) (v := ?_) rfl (by kernel_rfl) (by kernel_rfl) (by kernel_rfl) (fun _ _ _ h => h) (Or.inl ⟨by rfl, ?_⟩) (by assumption) ?_
                rotate_left
                · intro w' hS; go_simp; (try with_reducible rfl)
                simp only [Act.put, List.setIfInBounds_toArray, List.set_cons_zero, List.set_cons_succ]
                refine wpAnyH_ready (rs := [1]) (by kernel_rfl) (by simp) ?_
                refine AllReadyH.cons rfl (fun K hK => ?_) AllReadyH.nil
                go_simp
                refine (num14_any _ _).mono ?_
                rintro e yy ⟨rfl, rfl⟩
                go_wp2_with fail
                refine hK.out _ _ hH0 (fun hH0 => ?_)
                clear hK K
                refine wpAnyH_take (i := 2) (oi := { dst := some 142, op := Go.Op.binOp Go.BinOp.eql 3 (Go.Operand.tmp 141) (Go.Operand.const (Go.Value.int Go.IntKind.i64 0)) 3, type := 4, pos := "law.go:281", after := #[{ on := 1, ground := Go.Ground.data }], guard := none }) (v := ?_) rfl (by kernel_rfl) (by kernel_rfl) (by kernel_rfl) (fun _ _ _ h => h) (Or.inl ⟨by rfl, ?_⟩) (by assumption) ?_
                rotate_left
                · intro w' hS; go_simp; (try with_reducible rfl)
                simp only [Act.put, List.setIfInBounds_toArray, List.set_cons_zero, List.set_cons_succ]
                refine wpAnyH_take (i := 3) (oi := { dst := some 143, op := Go.Op.move (Go.Operand.tmp 142), type := 4, pos := "law.go:281", after := #[{ on := 2, ground := Go.Ground.data }, { on := 1, ground := Go.Ground.chain }], guard := none }) (v := ?_) rfl (by kernel_rfl) (by kernel_rfl) (by kernel_rfl) (fun _ _ _ h => h) (Or.inl ⟨by rfl, ?_⟩) (by assumption) ?_
                rotate_left
                · intro w' hS; go_simp; (try with_reducible rfl)
                simp only [Act.put, List.setIfInBounds_toArray, List.set_cons_zero, List.set_cons_succ]
                refine wpAnyH_take (i := 4) (oi := { dst := some 144, op := Go.Op.move (Go.Operand.tmp 25), type := 4, pos := "law.go:281", after := #[{ on := 3, ground := Go.Ground.guard }], guard := some (3, true) }) (v := ?_) rfl (by kernel_rfl) (by kernel_rfl) (by kernel_rfl) (fun _ _ _ h => h) (Or.inl ⟨by rfl, ?_⟩) (by assumption) ?_
                rotate_left
                · intro w' hS; go_simp; (try with_reducible rfl)
                simp only [Act.put, List.setIfInBounds_toArray, List.set_cons_zero, List.set_cons_succ]
                refine wpAnyH_take (i := 5) (oi := { dst := some 145, op := Go.Op.pick (Go.Operand.tmp 143) (Go.Operand.tmp 144) (Go.Operand.const (Go.Value.bool false)), type := 4, pos := "law.go:281", after := #[{ on := 3, ground := Go.Ground.data }, { on := 4, ground := Go.Ground.data }], guard := none }) (v := ?_) rfl (by kernel_rfl) (by kernel_rfl) (by kernel_rfl) (fun _ _ _ h => h) (Or.inl ⟨by rfl, ?_⟩) (by assumption) ?_
                rotate_left
                · intro w' hS; go_simp; (try with_reducible rfl)
                simp only [Act.put, List.setIfInBounds_toArray, List.set_cons_zero, List.set_cons_succ]
                refine wpAnyH_take (i := 6) (oi := { dst := some 146, op := Go.Op.move (Go.Operand.tmp 145), type := 4, pos := "law.go:281", after := #[{ on := 5, ground := Go.Ground.data }, { on := 3, ground := Go.Ground.chain }], guard := none }) (v := ?_) rfl (by kernel_rfl) (by kernel_rfl) (by kernel_rfl) (fun _ _ _ h => h) (Or.inl ⟨by rfl, ?_⟩) (by assumption) ?_
                rotate_left
                · intro w' hS; go_simp; (try with_reducible rfl)
                simp only [Act.put, List.setIfInBounds_toArray, List.set_cons_zero, List.set_cons_succ]
                refine wpAnyH_take (i := 7) (oi := { dst := some 147, op := Go.Op.fieldAddr 25 (Go.Operand.tmp 11) 2, type := 0, pos := "law.go:281", after := #[{ on := 6, ground := Go.Ground.guard }], guard := some (6, true) }) (v := ?_) rfl (by kernel_rfl) (by kernel_rfl) (by kernel_rfl) (fun _ _ _ h => h) (Or.inl ⟨by rfl, ?_⟩) (by assumption) ?_
                rotate_left
                · intro w' hS; go_simp; (try with_reducible rfl)
                simp only [Act.put, List.setIfInBounds_toArray, List.set_cons_zero, List.set_cons_succ]
                refine wpAnyH_take (i := 8) (oi := { dst := some 148, op := Go.Op.load 23 (Go.Operand.tmp 147), type := 23, pos := "law.go:281", after := #[{ on := 7, ground := Go.Ground.data }, { on := 6, ground := Go.Ground.guard }], guard := some (6, true) }) (v := .slice (some ⟨gb, qb, none⟩) B.ac.length c2) rfl (by kernel_rfl) (by kernel_rfl) (by kernel_rfl) (fun _ _ _ h => h) (Or.inl ⟨by rfl, ?_⟩) (by assumption) ?_
                · intro w' hS; exact ex_ld1 rfl rfl (hS.row 2)
                simp only [Act.put, List.setIfInBounds_toArray, List.set_cons_zero, List.set_cons_succ]
                refine wpAnyH_take (i := 9) (oi := { dst := some 149, op := Go.Op.load 25 (Go.Operand.tmp 11), type := 25, pos := "law.go:281", after := #[{ on := 6, ground := Go.Ground.guard }], guard := some (6, true) }) (v := .agg #[.int .i64 B.k, .slice n1 B.nx.length c1, .slice (some ⟨gb, qb, none⟩) B.ac.length c2]) rfl (by kernel_rfl) (by kernel_rfl) (by kernel_rfl) (fun _ _ _ h => h) (Or.inl ⟨by rfl, ?_⟩) (by assumption) ?_
                · intro w' hS; exact ex_load_row rfl rfl (lv_auto hS.blk)
                simp only [Act.put, List.setIfInBounds_toArray, List.set_cons_zero, List.set_cons_succ]
                refine wpAnyH_take (i := 10) (oi := { dst := some 150, op := Go.Op.move (Go.Operand.tmp 22), type := 3, pos := "law.go:281", after := #[{ on := 6, ground := Go.Ground.guard }], guard := some (6, true) }) (v := ?_) rfl (by kernel_rfl) (by kernel_rfl) (by kernel_rfl) (fun _ _ _ h => h) (Or.inl ⟨by rfl, ?_⟩) (by assumption) ?_
                rotate_left
                · intro w' hS; go_simp; (try with_reducible rfl)
                simp only [Act.put, List.setIfInBounds_toArray, List.set_cons_zero, List.set_cons_succ]
                refine wpAnyH_take (i := 11) (oi := { dst := some 151, op := Go.Op.move (Go.Operand.tmp 24), type := 9, pos := "law.go:281", after := #[{ on := 6, ground := Go.Ground.guard }], guard := some (6, true) }) (v := ?_) rfl (by kernel_rfl) (by kernel_rfl) (by kernel_rfl) (fun _ _ _ h => h) (Or.inl ⟨by rfl, ?_⟩) (by assumption) ?_
                rotate_left
                · intro w' hS; go_simp; (try with_reducible rfl)
                simp only [Act.put, List.setIfInBounds_toArray, List.set_cons_zero, List.set_cons_succ]
                refine wpAnyH_take (i := 15) (oi := { dst := some 155, op := Go.Op.fieldAddr 25 (Go.Operand.tmp 11) 2, type := 0, pos := "law.go:281", after := #[{ on := 6, ground := Go.Ground.guard }], guard := some (6, true) }) (v := ?_) rfl (by kernel_rfl) (by kernel_rfl) (by kernel_rfl) (fun _ _ _ h => h) (Or.inl ⟨by rfl, ?_⟩) (by assumption) ?_
                rotate_left
                · intro w' hS; go_simp; (try with_reducible rfl)
                simp only [Act.put, List.setIfInBounds_toArray, List.set_cons_zero, List.set_cons_succ]
                refine wpAnyH_take (i := 16) (oi := { dst := some 156, op := Go.Op.load 23 (Go.Operand.tmp 155), type := 23, pos := "law.go:281", after := #[{ on := 15, ground := Go.Ground.data }, { on := 6, ground := Go.Ground.guard }], guard := some (6, true) }) (v := .slice (some ⟨gb, qb, none⟩) B.ac.length c2) rfl (by kernel_rfl) (by kernel_rfl) (by kernel_rfl) (fun _ _ _ h => h) (Or.inl ⟨by rfl, ?_⟩) (by assumption) ?_
                · intro w' hS; exact ex_ld1 rfl rfl (hS.row 2)
                simp only [Act.put, List.setIfInBounds_toArray, List.set_cons_zero, List.set_cons_succ]
                refine wpAnyH_take (i := 17) (oi := { dst := some 157, op := Go.Op.load 25 (Go.Operand.tmp 11), type := 25, pos := "law.go:281", after := #[{ on := 6, ground := Go.Ground.guard }], guard := some (6, true) }) (v := .agg #[.int .i64 B.k, .slice n1 B.nx.length c1, .slice (some ⟨gb, qb, none⟩) B.ac.length c2]) rfl (by kernel_rfl) (by kernel_rfl) (by kernel_rfl) (fun _ _ _ h => h) (Or.inl ⟨by rfl, ?_⟩) (by assumption) ?_
                · intro w' hS; exact ex_load_row rfl rfl (lv_auto hS.blk)
                simp only [Act.put, List.setIfInBounds_toArray, List.set_cons_zero, List.set_cons_succ]
                refine wpAnyH_take (i := 18) (oi := { dst := some 158, op := Go.Op.move (Go.Operand.tmp 23), type := 3, pos := "law.go:281", after := #[{ on := 6, ground := Go.Ground.guard }], guard := some (6, true) }) (v := ?_) rfl (by kernel_rfl) (by kernel_rfl) (by kernel_rfl) (fun _ _ _ h => h) (Or.inl ⟨by rfl, ?_⟩) (by assumption) ?_
                rotate_left
                · intro w' hS; go_simp; (try with_reducible rfl)
                simp only [Act.put, List.setIfInBounds_toArray, List.set_cons_zero, List.set_cons_succ]
                refine wpAnyH_take (i := 19) (oi := { dst := some 159, op := Go.Op.move (Go.Operand.tmp 24), type := 9, pos := "law.go:281", after := #[{ on := 6, ground := Go.Ground.guard }], guard := some (6, true) }) (v := ?_) rfl (by kernel_rfl) (by kernel_rfl) (by kernel_rfl) (fun _ _ _ h => h) (Or.inl ⟨by rfl, ?_⟩) (by assumption) ?_
                rotate_left
                · intro w' hS; go_simp; (try with_reducible rfl)
                simp only [Act.put, List.setIfInBounds_toArray, List.set_cons_zero, List.set_cons_succ]
                refine wpAnyH_ready (rs := [12]) (by kernel_rfl) (by simp) ?_
                refine AllReadyH.cons rfl (fun K hK => ?_) AllReadyH.nil
                go_simp
                refine (E1.out _ HZL.out hH0.ar).mono ?_
                rintro e y1 ⟨rfl, hB⟩
                have hN := hH0.call hB
                clear hB
                go_wp2_with fail
                refine hK.out _ _ hN (fun hH1 => ?_)
                clear hN
                clear hK K
                refine wpAnyH_take (i := 13) (oi := { dst := some 153, op := Go.Op.indexAddr 23 (Go.Operand.tmp 148) (Go.Operand.tmp 152), type := 0, pos := "law.go:281", after := #[{ on := 8, ground := Go.Ground.data }, { on := 12, ground := Go.Ground.data }, { on := 6, ground := Go.Ground.guard }], guard := some (6, true) }) (v := .pointer (some ⟨gb, qb + p1, none⟩)) rfl (by kernel_rfl) (by kernel_rfl) (by kernel_rfl) (fun _ _ _ h => h) (Or.inl ⟨by rfl, ?_⟩) (by assumption) ?_
                · intro w' hS; exact ex_idb rfl rfl rfl HP.out.1 w'
                simp only [Act.put, List.setIfInBounds_toArray, List.set_cons_zero, List.set_cons_succ]
                refine wpAnyH_take (i := 14) (oi := { dst := some 154, op := Go.Op.load 4 (Go.Operand.tmp 153), type := 4, pos := "law.go:281", after := #[{ on := 13, ground := Go.Ground.data }, { on := 6, ground := Go.Ground.guard }], guard := some (6, true) }) (v := .bool b1) rfl (by kernel_rfl) (by kernel_rfl) (by kernel_rfl) (fun _ _ _ h => h) (Or.inl ⟨by rfl, ?_⟩) (by assumption) ?_
                · intro w' hS; exact ex_ldb rfl rfl (HCA.out w' hS).1
                simp only [Act.put, List.setIfInBounds_toArray, List.set_cons_zero, List.set_cons_succ]
                refine wpAnyH_ready (rs := [20]) (by kernel_rfl) (by simp) ?_
                refine AllReadyH.cons rfl (fun K hK => ?_) AllReadyH.nil
                go_simp
                refine (E2.out _ HZL.out hH1.ar).mono ?_
                rintro e y2 ⟨rfl, hB⟩
                have hN := hH1.call hB
                clear hB
                go_wp2_with fail
                refine hK.out _ _ hN (fun hH2 => ?_)
                clear hN
                clear hK K
                refine wpAnyH_take (i := 21) (oi := { dst := some 161, op := Go.Op.indexAddr 23 (Go.Operand.tmp 156) (Go.Operand.tmp 160), type := 0, pos := "law.go:281", after := #[{ on := 16, ground := Go.Ground.data }, { on := 20, ground := Go.Ground.data }, { on := 6, ground := Go.Ground.guard }], guard := some (6, true) }) (v := .pointer (some ⟨gb, qb + p2, none⟩)) rfl (by kernel_rfl) (by kernel_rfl) (by kernel_rfl) (fun _ _ _ h => h) (Or.inl ⟨by rfl, ?_⟩) (by assumption) ?_
                · intro w' hS; exact ex_idb rfl rfl rfl HP.out.2 w'
                simp only [Act.put, List.setIfInBounds_toArray, List.set_cons_zero, List.set_cons_succ]
                refine wpAnyH_take (i := 22) (oi := { dst := some 162, op := Go.Op.load 4 (Go.Operand.tmp 161), type := 4, pos := "law.go:281", after := #[{ on := 21, ground := Go.Ground.data }, { on := 6, ground := Go.Ground.guard }], guard := some (6, true) }) (v := .bool b2) rfl (by kernel_rfl) (by kernel_rfl) (by kernel_rfl) (fun _ _ _ h => h) (Or.inl ⟨by rfl, ?_⟩) (by assumption) ?_
                · intro w' hS; exact ex_ldb rfl rfl (HCA.out w' hS).2
                simp only [Act.put, List.setIfInBounds_toArray, List.set_cons_zero, List.set_cons_succ]
                refine wpAnyH_take (i := 23) (oi := { dst := some 163, op := Go.Op.binOp Go.BinOp.neq 4 (Go.Operand.tmp 154) (Go.Operand.tmp 162) 4, type := 4, pos := "law.go:281", after := #[{ on := 14, ground := Go.Ground.data }, { on := 22, ground := Go.Ground.data }, { on := 6, ground := Go.Ground.guard }], guard := some (6, true) }) (v := .bool true) rfl (by kernel_rfl) (by kernel_rfl) (by kernel_rfl) (fun _ _ _ h => h) (Or.inl ⟨by rfl, ?_⟩) (by assumption) ?_
                · intro w' hS; exact (ex_neb (a := b1) (b := b2) rfl rfl rfl w').trans (by rw [HBB.out])
                simp only [Act.put, List.setIfInBounds_toArray, List.set_cons_zero, List.set_cons_succ]
                refine wpAnyH_take (i := 24) (oi := { dst := some 164, op := Go.Op.pick (Go.Operand.tmp 146) (Go.Operand.tmp 163) (Go.Operand.const (Go.Value.bool false)), type := 4, pos := "law.go:281", after := #[{ on := 6, ground := Go.Ground.data }, { on := 23, ground := Go.Ground.data }], guard := none }) (v := ?_) rfl (by kernel_rfl) (by kernel_rfl) (by kernel_rfl) (fun _ _ _ h => h) (Or.inl ⟨by rfl, ?_⟩) (by assumption) ?_
                rotate_left
                · intro w' hS; go_simp; (try with_reducible rfl)
                simp only [Act.put, List.setIfInBounds_toArray, List.set_cons_zero, List.set_cons_succ]
                refine wpAnyH_take (i := 25) (oi := { dst := some 165, op := Go.Op.move (Go.Operand.tmp 164), type := 4, pos := "law.go:281", after := #[{ on := 24, ground := Go.Ground.data }, { on := 20, ground := Go.Ground.chain }], guard := none }) (v := ?_) rfl (by kernel_rfl) (by kernel_rfl) (by kernel_rfl) (fun _ _ _ h => h) (Or.inl ⟨by rfl, ?_⟩) (by assumption) ?_
                rotate_left
                · intro w' hS; go_simp; (try with_reducible rfl)
                simp only [Act.put, List.setIfInBounds_toArray, List.set_cons_zero, List.set_cons_succ]
                refine wpAnyH_ready (rs := [26]) (by kernel_rfl) (by simp) ?_
                refine AllReadyH.cons rfl (fun K hK => ?_) AllReadyH.nil
                go_simp
                refine (live14_any _).mono ?_
                rintro e y3 ⟨rfl, hB⟩
                have hN := hH2.call hB
                clear hB
                go_wp2_with fail
                refine hK.out _ _ hN (fun hH3 => ?_)
                clear hN
                clear hK K
                refine wpAnyH_take (i := 27) (oi := { dst := some 167, op := Go.Op.pick (Go.Operand.tmp 165) (Go.Operand.tmp 166) (Go.Operand.const (Go.Value.bool false)), type := 4, pos := "law.go:281", after := #[{ on := 25, ground := Go.Ground.data }, { on := 26, ground := Go.Ground.data }], guard := none }) (v := ?_) rfl (by kernel_rfl) (by kernel_rfl) (by kernel_rfl) (fun _ _ _ h => h) (Or.inl ⟨by rfl, ?_⟩) (by assumption) ?_
                rotate_left
                · intro w' hS; go_simp; (try with_reducible rfl)
                simp only [Act.put, List.setIfInBounds_toArray, List.set_cons_zero, List.set_cons_succ]
                refine wpAnyH_take (i := 28) (oi := { dst := some 10, op := Go.Op.assign (Go.Operand.tmp 167), type := 4, pos := "law.go:281", after := #[{ on := 27, ground := Go.Ground.data }, { on := 26, ground := Go.Ground.chain }, { on := 0, ground := Go.Ground.phase }, { on := 1, ground := Go.Ground.phase }, { on := 2, ground := Go.Ground.phase }, { on := 3, ground := Go.Ground.phase }, { on := 4, ground := Go.Ground.phase }, { on := 5, ground := Go.Ground.phase }, { on := 6, ground := Go.Ground.phase }, { on := 7, ground := Go.Ground.phase }, { on := 8, ground := Go.Ground.phase }, { on := 9, ground := Go.Ground.phase }, { on := 10, ground := Go.Ground.phase }, { on := 11, ground := Go.Ground.phase }, { on := 12, ground := Go.Ground.phase }, { on := 13, ground := Go.Ground.phase }, { on := 14, ground := Go.Ground.phase }, { on := 15, ground := Go.Ground.phase }, { on := 16, ground := Go.Ground.phase }, { on := 17, ground := Go.Ground.phase }, { on := 18, ground := Go.Ground.phase }, { on := 19, ground := Go.Ground.phase }, { on := 20, ground := Go.Ground.phase }, { on := 21, ground := Go.Ground.phase }, { on := 22, ground := Go.Ground.phase }, { on := 23, ground := Go.Ground.phase }, { on := 24, ground := Go.Ground.phase }, { on := 25, ground := Go.Ground.phase }, { on := 26, ground := Go.Ground.phase }, { on := 27, ground := Go.Ground.phase }], guard := none }) (v := ?_) rfl (by kernel_rfl) (by kernel_rfl) (by kernel_rfl) (fun _ _ _ h => h) (Or.inl ⟨by rfl, ?_⟩) (by assumption) ?_
                rotate_left
                · intro w' hS; go_simp; (try with_reducible rfl)
                simp only [Act.put, List.setIfInBounds_toArray, List.set_cons_zero, List.set_cons_succ]
                refine wpAnyH_done (by kernel_rfl) ?_ _
                go_wp2_with fail
                go_ret
                exact ⟨rfl, hH3.below⟩
            · exfalso
              obtain ⟨q, hq, e⟩ := syn_find HG.out HBE.out HMon.out HU.out HV.out HNE.out
              exact e (HALL.out q (by omega))
      · obtain ⟨E, hEE⟩ : ∃ E, chk A.k (u ++ v ++ x ++ y) = E := ⟨_, rfl⟩
        rw [hEE] at hc ⊢
        have hq0 : (E != 0) = true := by rw [bne_iff_ne]; exact hc
        clear hEE
        go_wp2_with fail
        refine (live14_any _).mono ?_
        rintro e w5 ⟨rfl, hb⟩
        have HS5 : Hid (SY W bn ob #[.int .i64 A.k, .slice an A.nx.length cn, .slice aa A.ac.length ca] #[.int .i64 B.k, .slice n1 B.nx.length c1, .slice (some ⟨gb, qb, none⟩) B.ac.length c2] B M N w5) := HS4.out.call hb
        clear hb
        go_wp2_with fail
        go_ret
        exact ⟨rfl, HS5.out.below⟩
  · obtain ⟨E, hEE⟩ : ∃ E, chkA A = E := ⟨_, rfl⟩
    rw [hEE] at hchk ⊢
    have hq0 : (E != 0) = true := by rw [bne_iff_ne]; exact hchk
    clear hEE
    go_wp2_with (first | (go_at_call 10; refine (num14_any _ _).mono ?_; rintro e yn ⟨rfl, hyn⟩; subst yn))
    refine (live14_any _).mono ?_
    rintro e w5 ⟨rfl, hb⟩
    have HB5 : Hid (Below W.heap.size W w5) := go_on HB2.out hb
    clear hb
    go_wp2_with fail
    go_ret
    exact ⟨rfl, HB5.out⟩

/-! ### The row's step -/
theorem own : ownKnob Try.prog.godebug = none := by kernel_rfl
set_option maxRecDepth 100000 in
theorem lifted (os : Os) (started : os.Started) (H : Type) (enc : TypeId × Value → H) :
    ReturnsInHanded {} Try.checked os 4 .any (Rows.monoidSyntacticSpec.pre6 enc Try.prog Try.f4 Rows.monoidSyntacticRow.domain false) (Rows.monoidSyntacticSpec.post enc Try.prog Try.f4 false true false false) := by
  refine returnsInHanded_of_change_sized (C := Try.checked) own started (by kernel_rfl) Try.func4
    (ChangeSpec.witness6 (enc := enc) (C := Try.checked) false ⟨#[], #[.agg #[.int .i64 0, .slice none 0 0, .slice none 0 0], .string ByteArray.empty, .string ByteArray.empty, .string ByteArray.empty, .string ByteArray.empty], []⟩ 8 (by kernel_rfl) (by kernel_rfl) (by kernel_rfl) (by kernel_rfl)) ?_
  intro W base args ds gs before hval0 hW hcnd hsz0 _
  have hval : ∀ (j : Nat) t v, Try.f4.params[j]? = some t → args[j]? = some v → Value.okWide Try.prog W .any base t v := hval0
  clear hval0
  have hsz : (DataW.weightsEach Try.prog (Try.f4.params.toList ++ Rows.monoidSyntacticSpec.plain.varTypes Try.prog) (ds ++ gs)).all (· ≤ reachBytes) = true := hsz0
  clear hsz0
  have hW' := hW
  obtain ⟨p, q, hA0, hV, rfl, hfz, hnd⟩ := hW
  have hA : DataW.TrodAll enc Try.prog W 0 (fun _ => true) true Try.f4.params.toList args.toList ds p := hA0
  rw [Try.params4] at hA hval hsz
  obtain ⟨v0, vs0, d0, ds0, p0, q0, hargs, rfl, rfl, h0, r0⟩ := trodAll_cons hA
  obtain ⟨v1, vs1, d1, ds1, p1, q1, rfl, rfl, rfl, h1, r1⟩ := trodAll_cons r0
  obtain ⟨v2, vs2, d2, ds2, p2, q2, rfl, rfl, rfl, h2, r2⟩ := trodAll_cons r1
  obtain ⟨v3, vs3, d3, ds3, p3, q3, rfl, rfl, rfl, h3, r3⟩ := trodAll_cons r2
  obtain ⟨v4, vs4, d4, ds4, p4, q4, rfl, rfl, rfl, h4, r4⟩ := trodAll_cons r3
  obtain ⟨rfl, rfl, rfl⟩ := trodAll_nil r4
  obtain rfl : args = #[v0, v1, v2, v3, v4] := by cases args; simp_all
  obtain ⟨rfl, rfl⟩ := trodVars_none hV
  obtain ⟨a0, x0, n0, w0, dk0, dn0, da0, e0, y0, z0⟩ := open_auto (hval 0 25 v0 rfl rfl) h0
  have b0 := auto_bounds hsz (j := 0) rfl (by rw [e0]; rfl) y0 z0
  have g0 : ∀ x ∈ p0, x.block < W.heap.size := fun x hx => hW'.lt x (by simp [hx])
  obtain ⟨a1, rfl, rfl, rfl, w1⟩ := open_string Try.underlying9 (hval 1 9 v1 rfl rfl) h1
  have u1 : a1.size ≤ 140737488355327 := by
    have := sized_string hsz (j := 1) (t := 9) rfl rfl
    have e : a1.data.toList.length = a1.size := rfl
    simp only [reachBytes] at this
    omega
  obtain ⟨a2, rfl, rfl, rfl, w2⟩ := open_string Try.underlying9 (hval 2 9 v2 rfl rfl) h2
  have u2 : a2.size ≤ 140737488355327 := by
    have := sized_string hsz (j := 2) (t := 9) rfl rfl
    have e : a2.data.toList.length = a2.size := rfl
    simp only [reachBytes] at this
    omega
  obtain ⟨a3, rfl, rfl, rfl, w3⟩ := open_string Try.underlying9 (hval 3 9 v3 rfl rfl) h3
  have u3 : a3.size ≤ 140737488355327 := by
    have := sized_string hsz (j := 3) (t := 9) rfl rfl
    have e : a3.data.toList.length = a3.size := rfl
    simp only [reachBytes] at this
    omega
  obtain ⟨a4, rfl, rfl, rfl, w4⟩ := open_string Try.underlying9 (hval 4 9 v4 rfl rfl) h4
  have u4 : a4.size ≤ 140737488355327 := by
    have := sized_string hsz (j := 4) (t := 9) rfl rfl
    have e : a4.data.toList.length = a4.size := rfl
    simp only [reachBytes] at this
    omega
  clear hA0
  refine (walk v0 a0 a1 a2 a3 a4 W x0 n0 b0.1 b0.2 u1 u2 u3 u4).mono fun e W' ⟨he, bel⟩ => ?_
  subst he
  exact ⟨_, rfl, _, _, _, [], _, [], hW', trodAll_mk1 (shut_bool Try.underlying4 _), (trodAll_cons_mk (Below.trod Try.laidOut (by kernel_rfl) (of_decide_eq_true (by kernel_rfl)) h0 bel g0) (trodAll_cons_mk (shut_string Try.underlying9 w1) (trodAll_cons_mk (shut_string Try.underlying9 w2) (trodAll_cons_mk (shut_string Try.underlying9 w3) (trodAll_cons_mk (shut_string Try.underlying9 w4) trodAll_mk0))))), rfl, bel.frame _, fun h => by cases h⟩

theorem over : Rows.monoidSyntacticRow.holds Try.pinned (OpenSpec.ofChange Rows.monoidSyntacticSpec) :=
  OpenClaim.holds_of_wide 4 Try.f4 rfl rfl rfl rfl rfl rfl rfl ⟨rfl, rfl, rfl, rfl, rfl⟩ rfl rfl rfl rfl rfl (by kernel_rfl) Try.func4 (by kernel_rfl)
    (of_decide_eq_true (by kernel_rfl)) (by unfold Func.isWrapper; first | (rw [if_pos (by decide +kernel)]; kernel_rfl) | (rw [if_neg (by decide +kernel)]; exact ⟨rfl, rfl⟩))
    (fun os started H enc _ => lifted os started H enc)

end Go.Proofs.Ythmnoepjkobcmab.monoidSyntactic
namespace Go.Proofs.Ythmnoepjkobcmab
/-- The given statement. -/
theorem monoidSyntactic_holds : Rows.MonoidSyntacticSaid := monoidSyntactic.over
end Go.Proofs.Ythmnoepjkobcmab
