/- The document's Words. What Words and the document's Words refuse. -/
import Derived.Test.YtfdkkiecibdblaaDoorGk
import Derived.Test.YtfdkkiecibdblaaDoorGi
import Derived.Laws.Concat
namespace Go.Proofs.YtfdkkiecibdblaaDoor
open Go Go.RowKit
set_option linter.unusedVariables false

abbrev SR (base : Nat) (w : World) (v : Value) (bs : List ByteArray) : Prop := w.ownsRow base 9 1 v bs.length (bs.map Value.string)
abbrev ApV (a b : Value) : Prop := ∀ x, a.ownBlock = some x → b.ownBlock ≠ some x
theorem ApV.symm {a b : Value} (h : ApV a b) : ApV b a := fun x h1 h2 => h x h2 h1
theorem SR.stay {base : Nat} {w w' : World} {v : Value} {bs : List ByteArray} (h : SR base w v bs) (hb : Below w.heap.size w w') : SR base w' v bs := own_of_heapK h fun k _ hk => hb.block k hk
theorem SR.push {base : Nat} {W w3 : World} {a : Value} {cs : List ByteArray} {s : ByteArray} {g c : Nat} {O : Obj} (h : SR base W a cs) (ho : w3.ownsRow base 9 1 (.slice (some ⟨g, 0, none⟩) (cs.length + 1) c) (cs.length + 1) (cs.map Value.string ++ [.string s])) (hg : (W.alloc O).grownBy w3 a.ownBlock) (hp : a.ownBlock = some g ∨ g = W.heap.size + 1) (hb : base ≤ W.heap.size) :
    SR base w3 (.slice (some ⟨g, 0, none⟩) (cs.length + 1) c) (cs ++ [s]) ∧ (∀ b bs, SR base W b bs → ApV a b → SR base w3 b bs ∧ ApV (.slice (some ⟨g, 0, none⟩) (cs.length + 1) c) b) ∧ Below base W w3 := by
  refine ⟨?_, fun b bs hq hab => ⟨own_of_heap hq (fun x hx => ?_), fun x hx hx' => ?_⟩, ((Below.refl _ _).alloc hb _).grown hg (by simp; omega) (fun k hk => (h.lt k hk).1)⟩
  · show World.ownsRow _ _ _ _ _ _ _
    rw [List.length_append, List.length_singleton, List.map_append]
    exact ho
  · have hxl := (hq.lt x hx).2
    rw [hg.block x (by simp; omega) (fun e => hab x e.symm hx), Below.heap_alloc _ _ _ hxl]
  · have hgx : g = x := by simpa [Value.ownBlock] using hx
    rcases hp with hp | hp
    · exact hab g hp (by rw [hgx]; exact hx')
    · have := (hq.lt x hx').2
      omega
/-- Words of fewer than i letters that the tree says. -/
noncomputable def ansP (t : Tr) (k i : Nat) : List (List Int) := (List.range i).flatMap fun l => (allW k l).filter (memL t)
theorem ansP_succ (t : Tr) (k i : Nat) : ansP t k (i + 1) = ansP t k i ++ (allW k i).filter (memL t) := by
  unfold ansP
  rw [List.range_succ, List.flatMap_append]
  simp
theorem ansP_len {k n : Nat} {t : Tr} : (ansP t k n).length ≤ sumP k n := by
  induction n with
  | zero => simp [ansP, sumP]
  | succ N ih =>
    rw [ansP_succ, List.length_append]
    have h2 := List.length_filter_le (memL t) (allW k N)
    rw [allW_len] at h2
    simp only [sumP]
    omega
def kids (k : Nat) (u : List Int) : List (List Int) := (List.range k).map fun (x : Nat) => u ++ [97 + (x : Int)]
theorem kids_len (k : Nat) (u : List Int) : (kids k u).length = k := by simp [kids]
theorem flat_kids_len (k : Nat) (l : List (List Int)) : (l.flatMap (kids k)).length = l.length * k := by
  induction l with
  | nil => simp
  | cons u l ih => rw [List.flatMap_cons, List.length_append, ih, kids_len, List.length_cons, Nat.succ_mul]; omega
theorem wordE_wd {k i m : Nat} (hk1 : 1 ≤ k) (hk8 : k ≤ 8) (hi : i ≤ 511) {s : ByteArray} (h : wl s = wd k i m) : wordE s = 0 := by
  rw [wordE_zero_iff]
  have hsz : s.size = i := by rw [← wl_len, h, wd_len]
  refine ⟨?_, by omega⟩
  rw [List.all_eq_true]
  intro b hb
  have hm : ((b.toNat : Nat) : Int) ∈ wl s := by unfold wl; exact List.mem_map.2 ⟨b, hb, rfl⟩
  rw [h] at hm
  have := wd_byte hk1 hk8 _ hm
  simp [letM]
  omega

set_option maxHeartbeats 8000000 in
set_option maxRecDepth 100000 in
theorem rWords_ok {w : World} {v : Value} {ts : List Nd} (k n : Nat) (hk1 : 1 ≤ k) (hk8 : k ≤ 8) (hn : n ≤ 511) (hs : sumP k (n + 1) ≤ 1000) (hw0 : wrong ts = 0) (hv : NReads w v ts) {t : Tr} (ht : t.ok) (hf : t.flat = ts) :
    Calls Tryd.prog 19 #[.int .i64 (k : Int), v, .int .i64 (n : Int)] w fun e w' => ∃ u bs, e = .returned (.tuple #[u, .int .i64 0]) ∧ SReads w' u bs ∧ bs.map wl = ansW t k n ∧ Below w.heap.size w w' := by
  have hts : ts.length ≤ 4000 := (wrong_zero hw0).1
  have HWR : Hid (Calls Tryd.prog 30 #[v] w fun e w' => e = .returned (.int .i64 0) ∧ Below w.heap.size w w') := by
    have := rwrong_any v ts w hv (by omega)
    rw [hw0] at this
    exact this
  have HLE : Hid (∀ W, Calls Tryd.prog 38 #[.int .i64 (k : Int)] W fun e w' => e = .returned (.int .i64 0) ∧ W = w') := fun W => by
    have := rLetters_any (k : Int) W
    rw [if_pos (by omega)] at this
    exact this
  have HMA : Hid (∀ W, Calls Tryd.prog 39 #[.int .i64 (k : Int), .int .i64 (n : Int)] W fun e w' => e = .returned (.bool false) ∧ W = w') := fun W => by
    have := rmany_any k n hk1 hk8 hn W
    rw [decide_eq_false (by omega)] at this
    exact this
  have HME : Hid (∀ (i m : Nat) (s : ByteArray) (W : World), i ≤ 511 → wl s = wd k i m → Below w.heap.size w W → Calls Tryd.prog 14 #[v, .string s] W fun e w' => e = .returned (.tuple #[.bool (memL t (wd k i m)), .int .i64 0]) ∧ Below W.heap.size W w') := fun i m s W hi hws hb => by
    refine (rMember6_any s (hv.stay hb) (by omega) (by have : s.size = i := by rw [← wl_len, hws, wd_len]
                                                       omega)).mono ?_
    rintro e w' ⟨b, h1, h2, h3, h4⟩
    have h0 : endsE ts s 0 = 0 := ends_ok0 (n := 0) hw0 (wordE_wd hk1 hk8 hi hws) (Nat.zero_le _)
    rw [h0] at h1
    have hb' : b = memL t (wd k i m) := by
      rw [Bool.eq_iff_iff, h3 h0 t ht hf, memL_iff, hws]
    rw [hb'] at h1
    exact ⟨h1, h4⟩
  obtain ⟨va, vc, hva, _⟩ := hv
  subst hva
  obtain ⟨L, HLL⟩ : ∃ L, Hid (ts.length = L) := ⟨_, rfl⟩
  rw [HLL.out] at HWR HME ⊢
  have h1 : ¬ (n : Int) < 0 := by omega
  have h2 : ¬ (511 : Int) < n := by omega
  have HSU : Hid (sumP k (n + 1) ≤ 1000 ∧ k ≤ 8 ∧ 1 ≤ k ∧ n ≤ 511) := ⟨hs, hk8, hk1, hn⟩
  obtain ⟨i0, hi0, hz0, hz1, hz2⟩ := info_parts Tryd.info_str9
  clear hts hw0 ht hf hs
  go_enter Tryd.func19, Tryd.ntmps19
  go_wp2_with fail
  refine HWR.out.mono ?_
  rintro e w1 ⟨rfl, hb1⟩
  have B1 : Hid (Below w.heap.size w w1) := hb1
  clear hb1
  go_wp2_with fail
  refine (HLE.out _).mono ?_
  rintro e w1' ⟨rfl, rfl⟩
  go_wp2_with fail
  refine (HMA.out _).mono ?_
  rintro e w1' ⟨rfl, rfl⟩
  have H0 : Hid (SR w.heap.size (w1.alloc (.cells #[.string ⟨#[]⟩] 9)) (.slice (some ⟨w1.heap.size, 0, none⟩) 1 1) [⟨#[]⟩] ∧ Below w.heap.size w (w1.alloc (.cells #[.string ⟨#[]⟩] 9)) ∧ [(⟨#[]⟩ : ByteArray)].map wl = allW k 0) := by
    refine ⟨⟨rfl, .inr ⟨w1.heap.size, 1, _, rfl, B1.out.size, heap_alloc_new w1 _, Nat.le_refl _, by decide, rfl, rfl⟩⟩, B1.out.alloc B1.out.size _, ?_⟩
    simp [allW, wd, wl]
  clear B1 HWR HLE HMA
  go_wp2_with fail
  go_loopw [11, 10, 9] (fun vi vr vo wr => ∃ (i : Nat) (rs os : List ByteArray), i ≤ n + 1 ∧ vi = .int .i64 (i : Int) ∧ SR w.heap.size wr vr rs ∧ SR w.heap.size wr vo os ∧ ApV vo vr ∧ rs.map wl = allW k i ∧ os.map wl = ansP t k i ∧ Below w.heap.size w wr) (fun vi _ _ _ => n + 1 - (intOf vi).toNat)
  case atStart => exact ⟨0, [⟨#[]⟩], [], Nat.zero_le _, rfl, H0.out.1, ⟨rfl, .inl ⟨rfl, rfl⟩⟩, (fun x h => by cases h), H0.out.2.2, rfl, H0.out.2.1⟩
  case round =>
    clear H0
    obtain ⟨i, rs, os, hi, rfl, hr, ho, hap, hrw, how, hb⟩ := hrel
    obtain ⟨ra, rc, rfl⟩ := own_shape hr
    obtain ⟨oa, oc, rfl⟩ := own_shape ho
    obtain ⟨R, hR⟩ : ∃ R, rs.length = R := ⟨_, rfl⟩
    have HRR : Hid (rs.length = R ∧ rs.map wl = allW k i) := ⟨hR, hrw⟩
    by_cases hle : i ≤ n
    · have hiI : (i : Int) ≤ n := by omega
      have HIL : Hid (i ≤ n) := hle
      have HRO : Hid (SR w.heap.size wr (.slice ra rs.length rc) rs ∧ SR w.heap.size wr (.slice oa os.length oc) os ∧ ApV (.slice oa os.length oc) (.slice ra rs.length rc) ∧ Below w.heap.size w wr ∧ os.map wl = ansP t k i) := ⟨hr, ho, hap, hb, how⟩
      clear hr ho hap hb how hrw
      rw [hR] at HRO ⊢
      have hRp : R = k ^ i := by
        have := congrArg List.length HRR.out.2
        rw [List.length_map, allW_len, HRR.out.1] at this
        exact this
      have hR1 : R ≤ 1000 := by
        have := pow_le_sum (k := k) (l := i) (n := n) hle
        have := HSU.out
        omega
      have HRP : Hid (R = k ^ i) := hRp
      clear hRp hR
      go_wp2_with fail
      go_loopw [13, 12, 9] (fun vj vx vo wr => ∃ (j : Nat) (xs os : List ByteArray), j ≤ R ∧ vj = .int .i64 (j : Int) ∧ SR w.heap.size wr (.slice ra R rc) rs ∧ SR w.heap.size wr vo os ∧ SR w.heap.size wr vx xs ∧ ApV vo (.slice ra R rc) ∧ ApV vx (.slice ra R rc) ∧ ApV vo vx ∧ xs.map wl = ((allW k i).take j).flatMap (kids k) ∧ os.map wl = ansP t k i ++ ((allW k i).take j).filter (memL t) ∧ Below w.heap.size w wr) (fun vj _ _ _ => R - (intOf vj).toNat)
      case atStart => exact ⟨0, [], os, Nat.zero_le _, rfl, HRO.out.1, HRO.out.2.1, ⟨rfl, .inl ⟨rfl, rfl⟩⟩, HRO.out.2.2.1, (fun x h => by cases h), (fun x _ h => by cases h), (by simp), (by rw [HRO.out.2.2.2.2]; simp), HRO.out.2.2.2.1⟩
      case round =>
        clear HRO
        obtain ⟨j, xs, os, hj, rfl, hr, ho, hx, a1, a2, a3, hxw, how, hb⟩ := hrel
        obtain ⟨oa, oc, rfl⟩ := own_shape ho
        obtain ⟨xa, xc, rfl⟩ := own_shape hx
        obtain ⟨O1, hO1⟩ : ∃ O1, os.length = O1 := ⟨_, rfl⟩
        obtain ⟨X1, hX1⟩ : ∃ X1, xs.length = X1 := ⟨_, rfl⟩
        by_cases hjR : j < R
        · have hjI : (j : Int) < R := by omega
          have HJR : Hid (j < R) := hjR
          obtain ⟨GR, hGR⟩ : ∃ GR, ra = some ⟨GR, 0, none⟩ := by
            obtain ⟨_, hh⟩ := id hr
            rcases hh with ⟨_, h0⟩ | ⟨g, c, cur, e, _⟩
            · have := HRR.out.1; omega
            · cases e; exact ⟨g, rfl⟩
          subst hGR
          obtain ⟨sj, HSJ⟩ : ∃ sj, Hid (some sj = rs[j]? ∧ wl sj = wd k i j) := by
            have hjr : j < rs.length := by rw [HRR.out.1]; exact hjR
            refine ⟨rs[j], ⟨(List.getElem?_eq_getElem hjr).symm, ?_⟩⟩
            have h1 : (rs.map wl)[j]? = (allW k i)[j]? := by rw [HRR.out.2]
            rw [List.getElem?_map, List.getElem?_eq_getElem hjr, allW_get k i j (by have := HRP.out; omega)] at h1
            exact Option.some.inj h1
          have c0 : wr.cell? ⟨GR, j, none⟩ = some (.string sj) := by
            have h1 := hr.cells (g := GR) rfl j (.string sj) (by rw [List.getElem?_map, ← HSJ.out.1]; rfl)
            rw [Addr.add_lit, Nat.zero_add] at h1
            exact h1
          have hGl := (hr.lt GR rfl).2
          have HX0 : Hid (SR w.heap.size wr (.slice (some ⟨GR, 0, none⟩) R rc) rs ∧ SR w.heap.size wr (.slice oa os.length oc) os ∧ SR w.heap.size wr (.slice xa xs.length xc) xs ∧ ApV (.slice oa os.length oc) (.slice (some ⟨GR, 0, none⟩) R rc) ∧ ApV (.slice xa xs.length xc) (.slice (some ⟨GR, 0, none⟩) R rc) ∧ ApV (.slice oa os.length oc) (.slice xa xs.length xc) ∧ Below w.heap.size w wr) := ⟨hr, ho, hx, a1, a2, a3, hb⟩
          have HXW : Hid (xs.map wl = ((allW k i).take j).flatMap (kids k)) := hxw
          have HOW0 : Hid (os.map wl = ansP t k i ++ ((allW k i).take j).filter (memL t)) := how
          have hO18 : O1 ≤ 2000 := by
            have h1 := congrArg List.length how
            have h2 := ansP_len (k := k) (n := i) (t := t)
            have h3 := List.length_filter_le (memL t) ((allW k i).take j)
            have h4 := sumP_le (k := k) (i := i) (j := n + 1) (by have := HIL.out; omega)
            rw [List.length_map, hO1, List.length_append] at h1
            rw [List.length_take, allW_len] at h3
            have := HSU.out
            have := HRP.out
            omega
          have hfl := filt_next t k i j (by have := HRP.out; omega)
          have HMEM := HME.out i j sj wr (by have := HIL.out; omega) HSJ.out.2 hb
          have HMM : Hid (Calls Tryd.prog 14 #[.slice va L vc, .string sj] wr fun e w' => e = .returned (.tuple #[.bool (memL t (wd k i j)), .int .i64 0]) ∧ Below wr.heap.size wr w') := HMEM
          obtain ⟨bit, hbit⟩ : ∃ b, memL t (wd k i j) = b := ⟨_, rfl⟩
          rw [hbit] at HMM hfl
          rw [hO1, hX1] at HX0 ⊢
          have HLN : Hid (os.length = O1 ∧ xs.length = X1) := ⟨hO1, hX1⟩
          clear hr ho hx a1 a2 a3 hb hxw how hbit HMEM hO1 hX1
          go_wp2_with fail
          refine HMM.out.mono ?_
          rintro e w5 ⟨rfl, hb5⟩
          have HX5 : Hid (SR w.heap.size w5 (.slice (some ⟨GR, 0, none⟩) R rc) rs ∧ SR w.heap.size w5 (.slice oa O1 oc) os ∧ SR w.heap.size w5 (.slice xa X1 xc) xs ∧ ApV (.slice oa O1 oc) (.slice (some ⟨GR, 0, none⟩) R rc) ∧ ApV (.slice xa X1 xc) (.slice (some ⟨GR, 0, none⟩) R rc) ∧ ApV (.slice oa O1 oc) (.slice xa X1 xc) ∧ Below w.heap.size w w5) := ⟨HX0.out.1.stay hb5, HX0.out.2.1.stay hb5, HX0.out.2.2.1.stay hb5, HX0.out.2.2.2.1, HX0.out.2.2.2.2.1, HX0.out.2.2.2.2.2.1, go_on HX0.out.2.2.2.2.2.2 hb5⟩
          have c5 : w5.cell? ⟨GR, j, none⟩ = some (.string sj) := by rw [below_cell hb5 hGl]; exact c0
          have hGl5 := Nat.lt_of_lt_of_le hGl hb5.size
          clear hb5 c0 hGl HX0 HMM
          cases bit with
          | false =>
            have HOW : Hid (os.map wl = ansP t k i ++ ((allW k i).take (j + 1)).filter (memL t)) := by
              show List.map _ _ = _
              rw [hfl, HOW0.out]
              simp
            have HT : Hid (SR w.heap.size w5 (.slice (some ⟨GR, 0, none⟩) R rc) rs ∧ SR w.heap.size w5 (.slice oa O1 oc) os ∧ SR w.heap.size w5 (.slice xa X1 xc) xs ∧ ApV (.slice oa O1 oc) (.slice (some ⟨GR, 0, none⟩) R rc) ∧ ApV (.slice xa X1 xc) (.slice (some ⟨GR, 0, none⟩) R rc) ∧ ApV (.slice oa O1 oc) (.slice xa X1 xc) ∧ Below w.heap.size w w5) := HX5.out
            clear hfl HX5 HOW0
            go_wp2_with fail
            go_loopw [16, 12] (fun vl vx wr => ∃ (l : Nat) (xs : List ByteArray), l ≤ k ∧ vl = .int .i64 (l : Int) ∧ SR w.heap.size wr (.slice (some ⟨GR, 0, none⟩) R rc) rs ∧ SR w.heap.size wr (.slice oa O1 oc) os ∧ SR w.heap.size wr vx xs ∧ ApV (.slice oa O1 oc) (.slice (some ⟨GR, 0, none⟩) R rc) ∧ ApV vx (.slice (some ⟨GR, 0, none⟩) R rc) ∧ ApV (.slice oa O1 oc) vx ∧ xs.map wl = ((allW k i).take j).flatMap (kids k) ++ (kids k (wd k i j)).take l ∧ Below w.heap.size w wr) (fun vl _ _ => k - (intOf vl).toNat)
            case atStart => exact ⟨0, xs, Nat.zero_le _, rfl, HT.out.1, HT.out.2.1, HT.out.2.2.1, HT.out.2.2.2.1, HT.out.2.2.2.2.1, HT.out.2.2.2.2.2.1, by rw [HXW.out]; simp, HT.out.2.2.2.2.2.2⟩
            case round =>
              clear HT HXW
              obtain ⟨l, xs, hl, rfl, hr, ho, hx, a1, a2, a3, hxw, hb⟩ := hrel
              obtain ⟨xa, xc, rfl⟩ := own_shape hx
              obtain ⟨X, hX⟩ : ∃ X, xs.length = X := ⟨_, rfl⟩
              have HXL : Hid (xs.length = X) := hX
              have HT2 : Hid (SR w.heap.size wr (.slice (some ⟨GR, 0, none⟩) R rc) rs ∧ SR w.heap.size wr (.slice oa O1 oc) os ∧ SR w.heap.size wr (.slice xa xs.length xc) xs ∧ ApV (.slice oa O1 oc) (.slice (some ⟨GR, 0, none⟩) R rc) ∧ ApV (.slice xa xs.length xc) (.slice (some ⟨GR, 0, none⟩) R rc) ∧ ApV (.slice oa O1 oc) (.slice xa xs.length xc) ∧ Below w.heap.size w wr) := ⟨hr, ho, hx, a1, a2, a3, hb⟩
              have HXW2 : Hid (xs.map wl = ((allW k i).take j).flatMap (kids k) ++ (kids k (wd k i j)).take l) := hxw
              have hX8 : X ≤ 16000 := by
                have h1 := congrArg List.length hxw
                rw [List.length_map, hX, List.length_append, flat_kids_len, List.length_take, List.length_take, allW_len, kids_len] at h1
                have h2 : min j (k ^ i) * k ≤ 1000 * 8 := Nat.mul_le_mul (by have := HRP.out; omega) HSU.out.2.1
                omega
              clear hr ho hx a1 a2 a3 hb hxw
              by_cases hlk : l < k
              · have hlI : (l : Int) < k := by omega
                have HLK : Hid (l < k) := hlk
                rw [hX] at HT2 ⊢
                obtain ⟨c0, gr, hgr⟩ : ∃ c0 : wr.cell? ⟨GR, j, none⟩ = some (.string sj), GR < wr.heap.size ∧ True := ⟨by
                  have h1 := HT2.out.1.cells (g := GR) rfl j (.string sj) (by rw [List.getElem?_map, ← HSJ.out.1]; rfl)
                  rw [Addr.add_lit, Nat.zero_add] at h1
                  exact h1, (HT2.out.1.lt GR rfl).2, trivial⟩
                obtain ⟨y, hy⟩ : ∃ y : Int, 97 + (l : Int) = y := ⟨_, rfl⟩
                have hw1 : IntKind.i64.wrap (97 + (l : Int)) = y := by rw [IntKind.wrap_i64]; omega
                have hw2 : IntKind.u8.wrap y = y := by rw [IntKind.wrap_u8]; omega
                have hwb : WBy (wr.alloc (.cells #[.int .u8 y] 5)).drew wr.heap.size [y] := ⟨[.int .u8 y], heap_alloc_new wr _, rfl⟩
                have hcv := conv_word hwb (fun z hz => by simp at hz; subst hz; omega) 1 1 (by simp)
                have HY : Hid (wl (sj ++ bw ([y].take 1)) = wd k i j ++ [97 + (l : Int)]) := by
                  show wl _ = _
                  rw [wl_append, HSJ.out.2, wl_bw (fun z hz => by simp at hz; subst hz; omega), hy]
                  rfl
                obtain ⟨z, hz⟩ : ∃ z, bw ([y].take 1) = z := ⟨_, rfl⟩
                rw [hz] at hcv HY
                obtain ⟨q, hq⟩ : ∃ q, sj ++ z = q := ⟨_, rfl⟩
                have hsum : ¬ 9223372036854775807 < sj.size + z.size := by
                  have e1 : sj.size = i := by rw [← wl_len, HSJ.out.2, wd_len]
                  have e2 : z.size = 1 := by rw [← hz, bw_size]; rfl
                  have := HIL.out
                  omega
                rw [hq] at HY
                have HNEW : Hid (∀ jj u, [Value.string q][jj]? = some u → ((wr.alloc (.cells #[.int .u8 y] 5)).alloc (.cells #[.string q] 9)).drew.cell? ((⟨wr.heap.size + 1, 0, none⟩ : Addr).add jj) = some u) := by
                  have := cell_one_new (wr.alloc (.cells #[.int .u8 y] 5)) (.string q) 9
                  have e : (wr.alloc (.cells #[.int .u8 y] 5)).heap.size = wr.heap.size + 1 := by simp
                  rw [e] at this
                  exact this
                have hbs0 := HT2.out.2.2.2.2.2.2.size
                have hbs : w.heap.size ≤ ((wr.alloc (.cells #[.int .u8 y] 5)).alloc (.cells #[.string q] 9)).drew.heap.size := by show _ ≤ ((wr.alloc _).alloc _).heap.size; simp; omega
                have HXR : Hid ((wr.alloc (.cells #[.int .u8 y] 5)).ownsRow w.heap.size 9 1 (.slice xa X xc) X (xs.map Value.string)) := by
                  have h1 := HT2.out.2.2.1.stay ((Below.refl _ _).alloc (Nat.le_refl _) (.cells #[.int .u8 y] 5))
                  have h2 : World.ownsRow _ _ _ _ _ _ _ := h1
                  rw [HXL.out] at h2
                  exact h2
                have HPU : Hid (∀ (g9 c9 : Nat) (w9 : World), w9.ownsRow w.heap.size 9 1 (.slice (some ⟨g9, 0, none⟩) (X + 1) c9) (X + 1) (xs.map Value.string ++ [.string q]) → ((wr.alloc (.cells #[.int .u8 y] 5)).alloc (.cells #[.string q] 9)).drew.grownBy w9 (Value.slice xa X xc).ownBlock → ((Value.slice xa X xc).ownBlock = some g9 ∨ g9 = ((wr.alloc (.cells #[.int .u8 y] 5)).alloc (.cells #[.string q] 9)).drew.heap.size) →
                    SR w.heap.size w9 (.slice (some ⟨GR, 0, none⟩) R rc) rs ∧ SR w.heap.size w9 (.slice oa O1 oc) os ∧ SR w.heap.size w9 (.slice (some ⟨g9, 0, none⟩) (X + 1) c9) (xs ++ [q]) ∧ ApV (.slice oa O1 oc) (.slice (some ⟨GR, 0, none⟩) R rc) ∧ ApV (.slice (some ⟨g9, 0, none⟩) (X + 1) c9) (.slice (some ⟨GR, 0, none⟩) R rc) ∧ ApV (.slice oa O1 oc) (.slice (some ⟨g9, 0, none⟩) (X + 1) c9) ∧ Below w.heap.size w w9) := fun g9 c9 w9 ho hg hp => by
                  have hst := (Below.refl wr.heap.size wr).alloc (Nat.le_refl _) (.cells #[.int .u8 y] 5)
                  have hX' := HXL.out
                  have hT := HT2.out
                  have hxx : SR w.heap.size (wr.alloc (.cells #[.int .u8 y] 5)) (.slice xa X xc) xs := hT.2.2.1.stay hst
                  have h3 := hxx.push (s := q) (g := g9) (c := c9) (w3 := w9) (O := .cells #[.string q] 9) (by rw [hX']; exact ho) (grown_drew hg) (by rcases hp with hp | hp; exact .inl hp; exact .inr (by rw [hp]; show ((wr.alloc _).alloc _).heap.size = _; simp)) (by simp; omega)
                  rw [hX'] at h3
                  obtain ⟨r1, r2⟩ := h3.2.1 _ rs (hT.1.stay hst) hT.2.2.2.2.1
                  obtain ⟨o1, o2⟩ := h3.2.1 _ os (hT.2.1.stay hst) hT.2.2.2.2.2.1.symm
                  exact ⟨r1, o1, h3.1, hT.2.2.2.1, r2, o2.symm, (hT.2.2.2.2.2.2.trans (hst.mono hT.2.2.2.2.2.2.size)).trans h3.2.2⟩
                have HXW3 : Hid ((xs ++ [q]).map wl = ((allW k i).take j).flatMap (kids k) ++ (kids k (wd k i j)).take (l + 1)) := by
                  show List.map _ _ = _
                  rw [List.map_append, HXW2.out, List.append_assoc]
                  congr 1
                  rw [List.take_add_one]
                  congr 1
                  unfold kids
                  rw [List.getElem?_map, List.getElem?_range HLK.out]
                  simp [HY.out]
                clear hX hy hwb hz hgr
                go_wp2_with fail
                go_region_law (rw [if_pos (by rfl)]; refine wp_append_lies _ _ _ 42 rfl w.heap.size 9 i0 (.string ⟨#[]⟩) 1 16 Tryd.underlying42 hi0 hz0 hz1 hz2 rfl (by decide) _ _ _ rfl (own_drew (HXR.out.alloc _)) ⟨wr.heap.size + 1, 0, none⟩ 1 1 [.string q] rfl rfl HNEW.out (by intro u hu; simp at hu; subst hu; rfl) (by decide) (by unfold maxLen; omega) (by omega) hbs _ rfl ?_; intro g9 c9 w9 ho9 hg9 hp9 _; have HP9 : Hid _ := HPU.out g9 c9 w9 ho9 hg9 hp9; clear ho9 hg9 hp9)
                all_goals (
                  clear c0 gr hcv
                  go_wp2_with fail
                  go_roundw
                  case rel => exact ⟨l + 1, xs ++ [q], HLK.out, by go_num, HP9.out.1, HP9.out.2.1, HP9.out.2.2.1, HP9.out.2.2.2.1, HP9.out.2.2.2.2.1, HP9.out.2.2.2.2.2.1, HXW3.out, HP9.out.2.2.2.2.2.2⟩
                  case measure => have := HLK.out; simp [intOf]; omega)
              · obtain rfl : l = k := by omega
                have hlI : ¬ (l : Int) < l := by omega
                have HXW3 : Hid (xs.map wl = ((allW l i).take (j + 1)).flatMap (kids l)) := by
                  show List.map _ _ = _
                  have hk' : (kids l (wd l i j)).take l = kids l (wd l i j) := List.take_of_length_le (by rw [kids_len]; exact Nat.le_refl _)
                  rw [HXW2.out, hk', List.take_add_one, allW_get l i j (by have := HRP.out; have := HJR.out; omega), List.flatMap_append]
                  simp
                go_wp2_with fail
                go_roundw
                case rel => exact ⟨j + 1, xs, os, HJR.out, by go_num, HT2.out.1, HT2.out.2.1, HT2.out.2.2.1, HT2.out.2.2.2.1, HT2.out.2.2.2.2.1, HT2.out.2.2.2.2.2.1, HXW3.out, HOW.out, HT2.out.2.2.2.2.2.2⟩
                case measure => have := HJR.out; simp [intOf]; omega
          | true =>
            have hbs := HX5.out.2.2.2.2.2.2.size
            have HRO5 : Hid (w5.ownsRow w.heap.size 9 1 (.slice oa O1 oc) O1 (os.map Value.string)) := by
              have h2 : World.ownsRow _ _ _ _ _ _ _ := HX5.out.2.1
              rw [HLN.out.1] at h2
              exact h2
            have HNX : Hid (∀ b2 : List ByteArray, b2 = os ++ [sj] → b2.map wl = ansP t k i ++ ((allW k i).take (j + 1)).filter (memL t)) := fun b2 h => by
              rw [h, List.map_append, HOW0.out, hfl, List.append_assoc]
              simp [HSJ.out.2]
            clear hfl
            go_wp2_with (at_builtin; refine wpList_append_lies _ rfl _ _ 42 rfl w.heap.size 9 i0 (.string ⟨#[]⟩) 1 16 Tryd.underlying42 hi0 hz0 hz1 hz2 rfl (by decide) _ _ _ rfl (HRO5.out.alloc _) ⟨w5.heap.size, 0, none⟩ 1 1 [.string sj] rfl rfl ?q1 ?q2 (by decide) ?q3 ?q4 ?q5 _ rfl ?_)
            case q1 => have := cell_one_new w5 (.string sj) 9; exact this
            case q2 => intro u hu; simp at hu; subst hu; rfl
            case q3 => unfold maxLen; omega
            case q4 => omega
            case q5 => simp; omega
            intro g7 c7 w7 ho7 hg7 hp7 _
            have HT : Hid (SR w.heap.size w7 (.slice (some ⟨GR, 0, none⟩) R rc) rs ∧ SR w.heap.size w7 (.slice (some ⟨g7, 0, none⟩) (O1 + 1) c7) (os ++ [sj]) ∧ SR w.heap.size w7 (.slice xa X1 xc) xs ∧ ApV (.slice (some ⟨g7, 0, none⟩) (O1 + 1) c7) (.slice (some ⟨GR, 0, none⟩) R rc) ∧ ApV (.slice xa X1 xc) (.slice (some ⟨GR, 0, none⟩) R rc) ∧ ApV (.slice (some ⟨g7, 0, none⟩) (O1 + 1) c7) (.slice xa X1 xc) ∧ Below w.heap.size w w7) := by
              have hO' := HLN.out.1
              have hT := HX5.out
              have h3 := hT.2.1.push (s := sj) (g := g7) (c := c7) (w3 := w7) (by rw [hO']; exact ho7) hg7 (by rcases hp7 with hp | hp; exact .inl hp; exact .inr (by first | exact hp | (rw [hp]; simp))) hbs
              rw [hO'] at h3
              obtain ⟨r1, r2⟩ := h3.2.1 _ rs hT.1 hT.2.2.2.1
              obtain ⟨o1, o2⟩ := h3.2.1 _ xs hT.2.2.1 hT.2.2.2.2.2.1
              exact ⟨r1, h3.1, o1, r2, hT.2.2.2.2.1, o2, hT.2.2.2.2.2.2.trans h3.2.2⟩
            have HOW : Hid ((os ++ [sj]).map wl = ansP t k i ++ ((allW k i).take (j + 1)).filter (memL t)) := HNX.out _ rfl
            clear ho7 hg7 hp7 c5 hGl5 HX5
            go_wp2_with fail
            go_loopw [16, 12] (fun vl vx wr => ∃ (l : Nat) (xs : List ByteArray), l ≤ k ∧ vl = .int .i64 (l : Int) ∧ SR w.heap.size wr (.slice (some ⟨GR, 0, none⟩) R rc) rs ∧ SR w.heap.size wr (.slice (some ⟨g7, 0, none⟩) (O1 + 1) c7) (os ++ [sj]) ∧ SR w.heap.size wr vx xs ∧ ApV (.slice (some ⟨g7, 0, none⟩) (O1 + 1) c7) (.slice (some ⟨GR, 0, none⟩) R rc) ∧ ApV vx (.slice (some ⟨GR, 0, none⟩) R rc) ∧ ApV (.slice (some ⟨g7, 0, none⟩) (O1 + 1) c7) vx ∧ xs.map wl = ((allW k i).take j).flatMap (kids k) ++ (kids k (wd k i j)).take l ∧ Below w.heap.size w wr) (fun vl _ _ => k - (intOf vl).toNat)
            case atStart => exact ⟨0, xs, Nat.zero_le _, rfl, HT.out.1, HT.out.2.1, HT.out.2.2.1, HT.out.2.2.2.1, HT.out.2.2.2.2.1, HT.out.2.2.2.2.2.1, by rw [HXW.out]; simp, HT.out.2.2.2.2.2.2⟩
            case round =>
              clear HT HXW
              obtain ⟨l, xs, hl, rfl, hr, ho, hx, a1, a2, a3, hxw, hb⟩ := hrel
              obtain ⟨xa, xc, rfl⟩ := own_shape hx
              obtain ⟨X, hX⟩ : ∃ X, xs.length = X := ⟨_, rfl⟩
              have HXL : Hid (xs.length = X) := hX
              have HT2 : Hid (SR w.heap.size wr (.slice (some ⟨GR, 0, none⟩) R rc) rs ∧ SR w.heap.size wr (.slice (some ⟨g7, 0, none⟩) (O1 + 1) c7) (os ++ [sj]) ∧ SR w.heap.size wr (.slice xa xs.length xc) xs ∧ ApV (.slice (some ⟨g7, 0, none⟩) (O1 + 1) c7) (.slice (some ⟨GR, 0, none⟩) R rc) ∧ ApV (.slice xa xs.length xc) (.slice (some ⟨GR, 0, none⟩) R rc) ∧ ApV (.slice (some ⟨g7, 0, none⟩) (O1 + 1) c7) (.slice xa xs.length xc) ∧ Below w.heap.size w wr) := ⟨hr, ho, hx, a1, a2, a3, hb⟩
              have HXW2 : Hid (xs.map wl = ((allW k i).take j).flatMap (kids k) ++ (kids k (wd k i j)).take l) := hxw
              have hX8 : X ≤ 16000 := by
                have h1 := congrArg List.length hxw
                rw [List.length_map, hX, List.length_append, flat_kids_len, List.length_take, List.length_take, allW_len, kids_len] at h1
                have h2 : min j (k ^ i) * k ≤ 1000 * 8 := Nat.mul_le_mul (by have := HRP.out; omega) HSU.out.2.1
                omega
              clear hr ho hx a1 a2 a3 hb hxw
              by_cases hlk : l < k
              · have hlI : (l : Int) < k := by omega
                have HLK : Hid (l < k) := hlk
                rw [hX] at HT2 ⊢
                obtain ⟨c0, gr, hgr⟩ : ∃ c0 : wr.cell? ⟨GR, j, none⟩ = some (.string sj), GR < wr.heap.size ∧ True := ⟨by
                  have h1 := HT2.out.1.cells (g := GR) rfl j (.string sj) (by rw [List.getElem?_map, ← HSJ.out.1]; rfl)
                  rw [Addr.add_lit, Nat.zero_add] at h1
                  exact h1, (HT2.out.1.lt GR rfl).2, trivial⟩
                obtain ⟨y, hy⟩ : ∃ y : Int, 97 + (l : Int) = y := ⟨_, rfl⟩
                have hw1 : IntKind.i64.wrap (97 + (l : Int)) = y := by rw [IntKind.wrap_i64]; omega
                have hw2 : IntKind.u8.wrap y = y := by rw [IntKind.wrap_u8]; omega
                have hwb : WBy (wr.alloc (.cells #[.int .u8 y] 5)).drew wr.heap.size [y] := ⟨[.int .u8 y], heap_alloc_new wr _, rfl⟩
                have hcv := conv_word hwb (fun z hz => by simp at hz; subst hz; omega) 1 1 (by simp)
                have HY : Hid (wl (sj ++ bw ([y].take 1)) = wd k i j ++ [97 + (l : Int)]) := by
                  show wl _ = _
                  rw [wl_append, HSJ.out.2, wl_bw (fun z hz => by simp at hz; subst hz; omega), hy]
                  rfl
                obtain ⟨z, hz⟩ : ∃ z, bw ([y].take 1) = z := ⟨_, rfl⟩
                rw [hz] at hcv HY
                obtain ⟨q, hq⟩ : ∃ q, sj ++ z = q := ⟨_, rfl⟩
                have hsum : ¬ 9223372036854775807 < sj.size + z.size := by
                  have e1 : sj.size = i := by rw [← wl_len, HSJ.out.2, wd_len]
                  have e2 : z.size = 1 := by rw [← hz, bw_size]; rfl
                  have := HIL.out
                  omega
                rw [hq] at HY
                have HNEW : Hid (∀ jj u, [Value.string q][jj]? = some u → ((wr.alloc (.cells #[.int .u8 y] 5)).alloc (.cells #[.string q] 9)).drew.cell? ((⟨wr.heap.size + 1, 0, none⟩ : Addr).add jj) = some u) := by
                  have := cell_one_new (wr.alloc (.cells #[.int .u8 y] 5)) (.string q) 9
                  have e : (wr.alloc (.cells #[.int .u8 y] 5)).heap.size = wr.heap.size + 1 := by simp
                  rw [e] at this
                  exact this
                have hbs0 := HT2.out.2.2.2.2.2.2.size
                have hbs : w.heap.size ≤ ((wr.alloc (.cells #[.int .u8 y] 5)).alloc (.cells #[.string q] 9)).drew.heap.size := by show _ ≤ ((wr.alloc _).alloc _).heap.size; simp; omega
                have HXR : Hid ((wr.alloc (.cells #[.int .u8 y] 5)).ownsRow w.heap.size 9 1 (.slice xa X xc) X (xs.map Value.string)) := by
                  have h1 := HT2.out.2.2.1.stay ((Below.refl _ _).alloc (Nat.le_refl _) (.cells #[.int .u8 y] 5))
                  have h2 : World.ownsRow _ _ _ _ _ _ _ := h1
                  rw [HXL.out] at h2
                  exact h2
                have HPU : Hid (∀ (g9 c9 : Nat) (w9 : World), w9.ownsRow w.heap.size 9 1 (.slice (some ⟨g9, 0, none⟩) (X + 1) c9) (X + 1) (xs.map Value.string ++ [.string q]) → ((wr.alloc (.cells #[.int .u8 y] 5)).alloc (.cells #[.string q] 9)).drew.grownBy w9 (Value.slice xa X xc).ownBlock → ((Value.slice xa X xc).ownBlock = some g9 ∨ g9 = ((wr.alloc (.cells #[.int .u8 y] 5)).alloc (.cells #[.string q] 9)).drew.heap.size) →
                    SR w.heap.size w9 (.slice (some ⟨GR, 0, none⟩) R rc) rs ∧ SR w.heap.size w9 (.slice (some ⟨g7, 0, none⟩) (O1 + 1) c7) (os ++ [sj]) ∧ SR w.heap.size w9 (.slice (some ⟨g9, 0, none⟩) (X + 1) c9) (xs ++ [q]) ∧ ApV (.slice (some ⟨g7, 0, none⟩) (O1 + 1) c7) (.slice (some ⟨GR, 0, none⟩) R rc) ∧ ApV (.slice (some ⟨g9, 0, none⟩) (X + 1) c9) (.slice (some ⟨GR, 0, none⟩) R rc) ∧ ApV (.slice (some ⟨g7, 0, none⟩) (O1 + 1) c7) (.slice (some ⟨g9, 0, none⟩) (X + 1) c9) ∧ Below w.heap.size w w9) := fun g9 c9 w9 ho hg hp => by
                  have hst := (Below.refl wr.heap.size wr).alloc (Nat.le_refl _) (.cells #[.int .u8 y] 5)
                  have hX' := HXL.out
                  have hT := HT2.out
                  have hxx : SR w.heap.size (wr.alloc (.cells #[.int .u8 y] 5)) (.slice xa X xc) xs := hT.2.2.1.stay hst
                  have h3 := hxx.push (s := q) (g := g9) (c := c9) (w3 := w9) (O := .cells #[.string q] 9) (by rw [hX']; exact ho) (grown_drew hg) (by rcases hp with hp | hp; exact .inl hp; exact .inr (by rw [hp]; show ((wr.alloc _).alloc _).heap.size = _; simp)) (by simp; omega)
                  rw [hX'] at h3
                  obtain ⟨r1, r2⟩ := h3.2.1 _ rs (hT.1.stay hst) hT.2.2.2.2.1
                  obtain ⟨o1, o2⟩ := h3.2.1 _ (os ++ [sj]) (hT.2.1.stay hst) hT.2.2.2.2.2.1.symm
                  exact ⟨r1, o1, h3.1, hT.2.2.2.1, r2, o2.symm, (hT.2.2.2.2.2.2.trans (hst.mono hT.2.2.2.2.2.2.size)).trans h3.2.2⟩
                have HXW3 : Hid ((xs ++ [q]).map wl = ((allW k i).take j).flatMap (kids k) ++ (kids k (wd k i j)).take (l + 1)) := by
                  show List.map _ _ = _
                  rw [List.map_append, HXW2.out, List.append_assoc]
                  congr 1
                  rw [List.take_add_one]
                  congr 1
                  unfold kids
                  rw [List.getElem?_map, List.getElem?_range HLK.out]
                  simp [HY.out]
                clear hX hy hwb hz hgr
                go_wp2_with fail
                go_region_law (rw [if_pos (by rfl)]; refine wp_append_lies _ _ _ 42 rfl w.heap.size 9 i0 (.string ⟨#[]⟩) 1 16 Tryd.underlying42 hi0 hz0 hz1 hz2 rfl (by decide) _ _ _ rfl (own_drew (HXR.out.alloc _)) ⟨wr.heap.size + 1, 0, none⟩ 1 1 [.string q] rfl rfl HNEW.out (by intro u hu; simp at hu; subst hu; rfl) (by decide) (by unfold maxLen; omega) (by omega) hbs _ rfl ?_; intro g9 c9 w9 ho9 hg9 hp9 _; have HP9 : Hid _ := HPU.out g9 c9 w9 ho9 hg9 hp9; clear ho9 hg9 hp9)
                all_goals (
                  clear c0 gr hcv
                  go_wp2_with fail
                  go_roundw
                  case rel => exact ⟨l + 1, xs ++ [q], HLK.out, by go_num, HP9.out.1, HP9.out.2.1, HP9.out.2.2.1, HP9.out.2.2.2.1, HP9.out.2.2.2.2.1, HP9.out.2.2.2.2.2.1, HXW3.out, HP9.out.2.2.2.2.2.2⟩
                  case measure => have := HLK.out; simp [intOf]; omega)
              · obtain rfl : l = k := by omega
                have hlI : ¬ (l : Int) < l := by omega
                have HXW3 : Hid (xs.map wl = ((allW l i).take (j + 1)).flatMap (kids l)) := by
                  show List.map _ _ = _
                  have hk' : (kids l (wd l i j)).take l = kids l (wd l i j) := List.take_of_length_le (by rw [kids_len]; exact Nat.le_refl _)
                  rw [HXW2.out, hk', List.take_add_one, allW_get l i j (by have := HRP.out; have := HJR.out; omega), List.flatMap_append]
                  simp
                go_wp2_with fail
                go_roundw
                case rel => exact ⟨j + 1, xs, (os ++ [sj]), HJR.out, by go_num, HT2.out.1, HT2.out.2.1, HT2.out.2.2.1, HT2.out.2.2.2.1, HT2.out.2.2.2.2.1, HT2.out.2.2.2.2.2.1, HXW3.out, HOW.out, HT2.out.2.2.2.2.2.2⟩
                case measure => have := HJR.out; simp [intOf]; omega
        · obtain rfl : j = R := by omega
          have hjI : ¬ (j : Int) < j := by omega
          have HFI : Hid (SR w.heap.size wr (.slice xa xs.length xc) xs ∧ SR w.heap.size wr (.slice oa os.length oc) os ∧ ApV (.slice oa os.length oc) (.slice xa xs.length xc) ∧ xs.map wl = allW k (i + 1) ∧ os.map wl = ansP t k (i + 1) ∧ Below w.heap.size w wr) := by
            have hfull : (allW k i).take j = allW k i := List.take_of_length_le (by rw [allW_len]; have := HRP.out; omega)
            rw [hfull] at hxw how
            exact ⟨hx, ho, a3, by rw [hxw, allW_succ HSU.out.2.2.1]; rfl, by rw [how, ansP_succ], hb⟩
          rw [hO1, hX1] at HFI ⊢
          clear hr ho hx a1 a2 a3 hb hxw how
          go_wp2_with fail
          go_roundw
          case rel => exact ⟨i + 1, xs, os, by have := HIL.out; omega, by go_num, HFI.out.1, HFI.out.2.1, HFI.out.2.2.1, HFI.out.2.2.2.1, HFI.out.2.2.2.2.1, HFI.out.2.2.2.2.2⟩
          case measure => have := HIL.out; simp [intOf]; omega
    · obtain rfl : i = n + 1 := by omega
      have hiI : ¬ ((n + 1 : Nat) : Int) ≤ n := by omega
      have HFI : Hid (SReads wr (.slice oa os.length oc) os ∧ os.map wl = ansW t k n ∧ Below w.heap.size w wr) := ⟨own_sreadsB ho, how, hb⟩
      obtain ⟨O, hO⟩ : ∃ O, os.length = O := ⟨_, rfl⟩
      rw [hR, hO]
      rw [hO] at HFI
      clear hr ho hap hb how hrw hO hR
      go_wp2_with fail
      go_ret2
      first
        | exact ⟨_, os, rfl, HFI.out⟩
        | exact ⟨_, rfl, os, HFI.out⟩
end Go.Proofs.YtfdkkiecibdblaaDoor

namespace Go.Proofs.YtfdkkiecibdblaaDoor
open Go Go.RowKit
set_option linter.unusedVariables false

set_option maxHeartbeats 4000000 in
set_option maxRecDepth 100000 in
theorem mWords_err {w : World} {v : Value} {ts : List Nd} (k n : Int) (hv : NReads w v ts) (hm : ts.length ≤ 9223372036854775806) (hP : PTab w) (hne : wordsE ts k n ≠ 0) :
    Calls Tryd.prog 18 #[.int .i64 k, v, .int .i64 n] w fun e w' => e = .returned (.tuple #[.slice none 0 0, .int .i64 (wordsE ts k n)]) ∧ Below w.heap.size w w' := by
  unfold wordsE at hne ⊢
  by_cases h0 : wrong ts = 0
  rotate_left
  · have HC1 : Hid (Calls Tryd.prog 26 #[v] w fun e w' => e = .returned (.int .i64 (wrong ts)) ∧ Below w.heap.size w w') := mtreeErr_any v ts w hv hm hP
    rw [if_neg h0]
    obtain ⟨x, hx⟩ : ∃ x, wrong ts = x := ⟨_, rfl⟩
    rw [hx] at HC1 h0 ⊢
    clear hx hne
    go_enter Tryd.func18, Tryd.ntmps18
    go_wp2_with fail
    refine HC1.out.mono ?_
    rintro e w1 ⟨rfl, hb1⟩
    go_wp2_with fail
    go_ret2
    exact ⟨rfl, hb1⟩
  have HC1 : Hid (Calls Tryd.prog 26 #[v] w fun e w' => e = .returned (.int .i64 0) ∧ Below w.heap.size w w') := by
    have := mtreeErr_any v ts w hv hm hP
    rw [h0] at this
    exact this
  rw [if_pos h0] at hne ⊢
  clear h0
  by_cases hk : 1 ≤ k ∧ k ≤ 8
  rotate_left
  · rw [if_neg hk]
    by_cases hk1 : k < 1
    · clear hk hne
      go_enter Tryd.func18, Tryd.ntmps18
      go_wp2_with fail
      refine HC1.out.mono ?_
      rintro e w1 ⟨rfl, hb1⟩
      go_wp2_with fail
      go_ret2
      exact ⟨rfl, hb1⟩
    · have hk8 : 8 < k := by omega
      clear hk hne
      go_enter Tryd.func18, Tryd.ntmps18
      go_wp2_with fail
      refine HC1.out.mono ?_
      rintro e w1 ⟨rfl, hb1⟩
      go_wp2_with fail
      go_ret2
      exact ⟨rfl, hb1⟩
  rw [if_pos hk] at hne ⊢
  have hk1 : ¬ k < 1 := by omega
  have hk8 : ¬ 8 < k := by omega
  by_cases hnn : n < 0 ∨ 511 < n
  · rw [if_pos hnn]
    by_cases hn1 : n < 0
    · clear hnn hne hk
      go_enter Tryd.func18, Tryd.ntmps18
      go_wp2_with fail
      refine HC1.out.mono ?_
      rintro e w1 ⟨rfl, hb1⟩
      go_wp2_with fail
      go_ret2
      exact ⟨rfl, hb1⟩
    · have hn2 : 511 < n := by omega
      clear hnn hne hk
      go_enter Tryd.func18, Tryd.ntmps18
      go_wp2_with fail
      refine HC1.out.mono ?_
      rintro e w1 ⟨rfl, hb1⟩
      go_wp2_with fail
      go_ret2
      exact ⟨rfl, hb1⟩
  rw [if_neg hnn] at hne ⊢
  have hbig : 1000 < sumP k.toNat (n.toNat + 1) := by
    by_cases c : 1000 < sumP k.toNat (n.toNat + 1)
    · exact c
    · rw [if_neg c] at hne; exact absurd rfl hne
  rw [if_pos hbig]
  have HTM : Hid (∀ W : World, Calls Tryd.prog 34 #[.int .i64 k, .int .i64 n] W fun e w' => e = .returned (.bool true) ∧ W = w') := fun W => by
    have h1 := mtooMany_any k.toNat n.toNat (by omega) (by omega) (by omega) W
    rw [decide_eq_true hbig] at h1
    have e1 : ((k.toNat : Nat) : Int) = k := by omega
    have e2 : ((n.toNat : Nat) : Int) = n := by omega
    rw [e1, e2] at h1
    exact h1
  have hn1 : ¬ n < 0 := by omega
  have hn2 : ¬ 511 < n := by omega
  clear hbig hne hk hnn
  go_enter Tryd.func18, Tryd.ntmps18
  go_wp2_with fail
  refine HC1.out.mono ?_
  rintro e w1 ⟨rfl, hb1⟩
  have B1 : Hid (Below w.heap.size w w1) := hb1
  clear hb1
  go_wp2_with fail
  refine (HTM.out _).mono ?_
  rintro e w1' ⟨rfl, rfl⟩
  go_wp2_with fail
  go_ret2
  exact ⟨rfl, B1.out⟩

set_option maxHeartbeats 4000000 in
set_option maxRecDepth 100000 in
theorem rWords_err {w : World} {v : Value} {ts : List Nd} (k n : Int) (hv : NReads w v ts) (hm : ts.length ≤ 9223372036854775806) (hne : wordsE ts k n ≠ 0) :
    Calls Tryd.prog 19 #[.int .i64 k, v, .int .i64 n] w fun e w' => e = .returned (.tuple #[.slice none 0 0, .int .i64 (wordsE ts k n)]) ∧ Below w.heap.size w w' := by
  have HLE : Hid (∀ W, Calls Tryd.prog 38 #[.int .i64 k] W fun e w' => e = .returned (.int .i64 (if 1 ≤ k ∧ k ≤ 8 then 0 else 20)) ∧ W = w') := fun W => rLetters_any k W
  unfold wordsE at hne ⊢
  by_cases h0 : wrong ts = 0
  rotate_left
  · have HC1 : Hid (Calls Tryd.prog 30 #[v] w fun e w' => e = .returned (.int .i64 (wrong ts)) ∧ Below w.heap.size w w') := rwrong_any v ts w hv hm
    rw [if_neg h0]
    obtain ⟨x, hx⟩ : ∃ x, wrong ts = x := ⟨_, rfl⟩
    rw [hx] at HC1 h0 ⊢
    clear hx hne
    go_enter Tryd.func19, Tryd.ntmps19
    go_wp2_with fail
    refine HC1.out.mono ?_
    rintro e w1 ⟨rfl, hb1⟩
    go_wp2_with fail
    go_ret2
    exact ⟨rfl, hb1⟩
  have HC1 : Hid (Calls Tryd.prog 30 #[v] w fun e w' => e = .returned (.int .i64 0) ∧ Below w.heap.size w w') := by
    have := rwrong_any v ts w hv hm
    rw [h0] at this
    exact this
  rw [if_pos h0] at hne ⊢
  clear h0
  by_cases hk : 1 ≤ k ∧ k ≤ 8
  rotate_left
  · rw [if_neg hk]
    have HLE20 : Hid (∀ W, Calls Tryd.prog 38 #[.int .i64 k] W fun e w' => e = .returned (.int .i64 20) ∧ W = w') := fun W => by
      have := HLE.out W
      rw [if_neg hk] at this
      exact this
    by_cases hk1 : k < 1
    · clear hk hne
      go_enter Tryd.func19, Tryd.ntmps19
      go_wp2_with fail
      refine HC1.out.mono ?_
      rintro e w1 ⟨rfl, hb1⟩
      go_wp2_with fail
      refine (HLE20.out _).mono ?_
      rintro e w1' ⟨rfl, rfl⟩
      go_wp2_with fail
      go_ret2
      exact ⟨rfl, hb1⟩
    · have hk8 : 8 < k := by omega
      clear hk hne
      go_enter Tryd.func19, Tryd.ntmps19
      go_wp2_with fail
      refine HC1.out.mono ?_
      rintro e w1 ⟨rfl, hb1⟩
      go_wp2_with fail
      refine (HLE20.out _).mono ?_
      rintro e w1' ⟨rfl, rfl⟩
      go_wp2_with fail
      go_ret2
      exact ⟨rfl, hb1⟩
  rw [if_pos hk] at hne ⊢
  have HLE0 : Hid (∀ W, Calls Tryd.prog 38 #[.int .i64 k] W fun e w' => e = .returned (.int .i64 0) ∧ W = w') := fun W => by
    have := HLE.out W
    rw [if_pos hk] at this
    exact this
  have hk1 : ¬ k < 1 := by omega
  have hk8 : ¬ 8 < k := by omega
  by_cases hnn : n < 0 ∨ 511 < n
  · rw [if_pos hnn]
    by_cases hn1 : n < 0
    · clear hnn hne hk
      go_enter Tryd.func19, Tryd.ntmps19
      go_wp2_with fail
      refine HC1.out.mono ?_
      rintro e w1 ⟨rfl, hb1⟩
      go_wp2_with fail
      refine (HLE0.out _).mono ?_
      rintro e w1' ⟨rfl, rfl⟩
      go_wp2_with fail
      go_ret2
      exact ⟨rfl, hb1⟩
    · have hn2 : 511 < n := by omega
      clear hnn hne hk
      go_enter Tryd.func19, Tryd.ntmps19
      go_wp2_with fail
      refine HC1.out.mono ?_
      rintro e w1 ⟨rfl, hb1⟩
      go_wp2_with fail
      refine (HLE0.out _).mono ?_
      rintro e w1' ⟨rfl, rfl⟩
      go_wp2_with fail
      go_ret2
      exact ⟨rfl, hb1⟩
  rw [if_neg hnn] at hne ⊢
  have hbig : 1000 < sumP k.toNat (n.toNat + 1) := by
    by_cases c : 1000 < sumP k.toNat (n.toNat + 1)
    · exact c
    · rw [if_neg c] at hne; exact absurd rfl hne
  rw [if_pos hbig]
  have HTM : Hid (∀ W : World, Calls Tryd.prog 39 #[.int .i64 k, .int .i64 n] W fun e w' => e = .returned (.bool true) ∧ W = w') := fun W => by
    have h1 := rmany_any k.toNat n.toNat (by omega) (by omega) (by omega) W
    rw [decide_eq_true hbig] at h1
    have e1 : ((k.toNat : Nat) : Int) = k := by omega
    have e2 : ((n.toNat : Nat) : Int) = n := by omega
    rw [e1, e2] at h1
    exact h1
  have hn1 : ¬ n < 0 := by omega
  have hn2 : ¬ 511 < n := by omega
  clear hbig hne hk hnn
  go_enter Tryd.func19, Tryd.ntmps19
  go_wp2_with fail
  refine HC1.out.mono ?_
  rintro e w1 ⟨rfl, hb1⟩
  have B1 : Hid (Below w.heap.size w w1) := hb1
  clear hb1
  go_wp2_with fail
  refine (HLE0.out _).mono ?_
  rintro e w1' ⟨rfl, rfl⟩
  go_wp2_with fail
  refine (HTM.out _).mono ?_
  rintro e w1' ⟨rfl, rfl⟩
  go_wp2_with fail
  go_ret2
  exact ⟨rfl, B1.out⟩

theorem wl_inj {a b : ByteArray} (h : wl a = wl b) : a = b := by
  unfold wl at h
  have h2 := (List.map_inj_right (fun (x y : UInt8) (e : (x.toNat : Int) = (y.toNat : Int)) => UInt8.toNat_inj.1 (by omega))).1 h
  have h3 : a.data = b.data := Array.toList_inj.1 h2
  exact ByteArray.ext h3
theorem wordsE_zero {ts : List Nd} {k n : Int} (h : wordsE ts k n = 0) : wrong ts = 0 ∧ 1 ≤ k ∧ k ≤ 8 ∧ 0 ≤ n ∧ n ≤ 511 ∧ sumP k.toNat (n.toNat + 1) ≤ 1000 := by
  unfold wordsE at h
  by_cases h0 : wrong ts = 0
  · rw [if_pos h0] at h
    by_cases hk : 1 ≤ k ∧ k ≤ 8
    · rw [if_pos hk] at h
      by_cases hn : n < 0 ∨ 511 < n
      · rw [if_pos hn] at h; cases h
      · rw [if_neg hn] at h
        by_cases hs : 1000 < sumP k.toNat (n.toNat + 1)
        · rw [if_pos hs] at h; cases h
        · exact ⟨h0, hk.1, hk.2, by omega, by omega, by omega⟩
    · rw [if_neg hk] at h; cases h
  · rw [if_neg h0] at h; exact absurd h h0
end Go.Proofs.YtfdkkiecibdblaaDoor
