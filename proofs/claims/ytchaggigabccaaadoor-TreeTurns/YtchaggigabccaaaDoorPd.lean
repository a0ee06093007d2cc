/- Contracts of tree.Reverse and tree.Rename at every input. -/
import Derived.Test.YtchaggigabccaaaDoorPc
namespace Go.Proofs.YtchaggigabccaaaDoor
open Go Go.RowKit

set_option maxHeartbeats 2000000 in
set_option maxRecDepth 100000 in
theorem reverse_bad (v : Value) (ts : List Nd) (w : World) (hv : NReads w v ts) (hm : ts.length ≤ 9223372036854775806) (hP : PTab w) (hbad : wrong ts ≠ 0) :
    Calls Tryd.prog 29 #[v] w fun e w' => e = .returned (.tuple #[.slice none 0 0, .int .i64 (wrong ts)]) ∧ Below w.heap.size w w' := by
  have HV : Hid (NReads w v ts) := hv
  have HP : Hid (PTab w) := hP
  obtain ⟨x, hx⟩ : ∃ x, wrong ts = x := ⟨_, rfl⟩
  rw [hx] at hbad
  have hxb : (x != 0) = true := by simpa using hbad
  have HX : Hid (wrong ts = x) := hx
  rw [hx]
  clear hv hP hx hbad
  go_enter Tryd.func29, Tryd.ntmps29
  go_wp2_with fail
  refine (treeError_any _ ts _ HV.out hm HP.out).mono ?_
  rintro e w1 ⟨rfl, hb1⟩
  rw [HX.out]
  have HB1 : Hid (Below w.heap.size w w1) := hb1
  clear hb1
  go_wp2_with fail
  go_ret2
  exact ⟨rfl, HB1.out⟩

/-- The letter at a place of a text. -/
def bAt (s : ByteArray) (i : Nat) : Int := if h : i < s.size then (s[i].toNat : Int) else 0
theorem bAt_get (s : ByteArray) (i : Nat) (h : i < s.size) : bAt s i = (s[i].toNat : Int) := by simp [bAt, h]
theorem bAt_le (s : ByteArray) (i : Nat) : 0 ≤ bAt s i ∧ bAt s i ≤ 255 := by
  unfold bAt
  split
  · next h => have := (s[i]).toNat_lt; omega
  · omega
def lets (s : ByteArray) : Bool := (List.range s.size).all fun i => isLet (bAt s i)
def ren (s : ByteArray) (n : Nd) : Nd := if n.1 = 3 then (3, bAt s (n.2 - 97).toNat) else n
def renE (s : ByteArray) (ts : List Nd) : Int := if wrong ts ≠ 0 then wrong ts else if s.size ≠ 8 then 1 else if lets s then 0 else 21
def renT (s : ByteArray) (ts : List Nd) : List Nd := if renE s ts = 0 then ts.map (ren s) else []
theorem renT_no {s : ByteArray} {ts : List Nd} {x : Int} (h : renE s ts = x) (hx : x ≠ 0) : renT s ts = [] := by
  unfold renT; rw [h, if_neg hx]
theorem lets_all {s : ByteArray} (h : ∀ i, i < s.size → isLet (bAt s i) = true) : lets s = true := by
  unfold lets
  rw [List.all_eq_true]
  intro i hi
  exact h i (List.mem_range.1 hi)
theorem lets_no {s : ByteArray} {i : Nat} (hi : i < s.size) (h : isLet (bAt s i) = false) : lets s = false := by
  rw [Bool.eq_false_iff]
  intro hh
  unfold lets at hh
  rw [List.all_eq_true] at hh
  have := hh i (List.mem_range.2 hi)
  rw [h] at this
  cases this
theorem ndC_set_snd (l : List Nd) (i : Nat) (x : Int) (h : i < l.length) : (ndC l).set (i * 2 + 1) (.int .u8 x) = ndC (l.set i ((l.getD i (0, 0)).1, x)) := by
  induction l generalizing i with
  | nil => simp at h
  | cons n l ih =>
    cases i with
    | zero => rfl
    | succ i =>
      have := ih i (by simpa using h)
      simp only [ndC, List.set_cons_succ]
      rw [show (i + 1) * 2 = (i * 2 + 1) + 1 by omega]
      simp only [List.set_cons_succ, List.getD_cons_succ]
      rw [this]
/-- Renamed up to i. -/
def renTo (s : ByteArray) (ts : List Nd) (i : Nat) : List Nd := (ts.take i).map (ren s) ++ ts.drop i
theorem renTo_len (s : ByteArray) (ts : List Nd) (i : Nat) : (renTo s ts i).length = ts.length := by
  simp [renTo]; omega
theorem renTo_get (s : ByteArray) (ts : List Nd) (i : Nat) (h : i < ts.length) : (renTo s ts i).getD i (0, 0) = ts.getD i (0, 0) := by
  unfold renTo
  rw [List.getD_eq_getElem?_getD, List.getElem?_append_right (by simp; omega), List.getD_eq_getElem?_getD]
  simp only [List.length_map, List.length_take, Nat.min_eq_left (show i ≤ ts.length by omega), Nat.sub_self, List.getElem?_drop, Nat.add_zero]
theorem renTo_next (s : ByteArray) (ts : List Nd) (i : Nat) (h : i < ts.length) : renTo s ts (i + 1) = (renTo s ts i).set i (ren s (ts.getD i (0, 0))) := by
  unfold renTo
  have hl : ((ts.take i).map (ren s)).length = i := by simp; omega
  rw [List.set_append_right _ _ (by omega), hl, Nat.sub_self, List.drop_eq_getElem_cons h, List.set_cons_zero]
  rw [List.take_add_one, List.getElem?_eq_getElem h, List.map_append, List.append_assoc]
  simp [List.getD_eq_getElem?_getD, List.getElem?_eq_getElem h]

set_option maxHeartbeats 8000000 in
set_option maxRecDepth 100000 in
theorem rename_any (v : Value) (ts : List Nd) (s : ByteArray) (w : World) (hv : NReads w v ts) (hm : ts.length ≤ 9223372036854775806) (hP : PTab w) :
    Calls Tryd.prog 30 #[v, .string s] w fun e w' => ∃ u, e = .returned (.tuple #[u, .int .i64 (renE s ts)]) ∧ w'.ownsRow w.heap.size 36 2 u (renT s ts).length (ndC (renT s ts)) ∧ Below w.heap.size w w' := by
  have HV : Hid (NReads w v ts) := hv
  have HP : Hid (PTab w) := hP
  clear hP
  by_cases hbad : wrong ts = 0
  · have HX : Hid (wrong ts = 0) := hbad
    obtain ⟨h4, hf⟩ := wrong_len hbad
    have hn1 := free_pos hf
    have HF : Hid (freeN ts = some 1) := hf
    obtain ⟨av, cv, rfl, hrd⟩ := hv
    obtain ⟨g, o, rfl, _⟩ := hrd 0 (by omega)
    clear hrd hbad hf
    by_cases h8 : s.size = 8
    · have h8b : ((s.size : Int) != 8) = false := by rw [h8]; rfl
      go_enter Tryd.func30, Tryd.ntmps30
      go_wp2_with fail
      refine (treeError_any _ ts _ HV.out hm HP.out).mono ?_
      rintro e w1 ⟨rfl, hb1⟩
      rw [HX.out]
      have HB1 : Hid (Below w.heap.size w w1) := hb1
      clear hb1
      go_wp2_with fail
      clear h8b
      go_loopw [21] (fun vi wr => ∃ i : Nat, i ≤ s.size ∧ vi = .int .i64 i ∧ (∀ j, j < i → isLet (bAt s j) = true) ∧ Below w.heap.size w wr) (fun vi _ => s.size - (intOf vi).toNat)
      case atStart => exact ⟨0, Nat.zero_le _, rfl, fun j hj => by omega, HB1.out⟩
      case round =>
        clear HB1
        obtain ⟨i, hi, rfl, hall, hb⟩ := hrel
        have HALL : Hid (∀ j, j < i → isLet (bAt s j) = true) := hall
        have HB : Hid (Below w.heap.size w wr) := hb
        clear hall hb
        by_cases hlt : i < s.size
        · have hiI : (i : Int) < s.size := by omega
          go_wp2_with fail
          refine (isLetter_any _ _).mono ?_
          rintro e w2 ⟨rfl, rfl⟩
          have hbt := bAt_get s i hlt
          obtain ⟨t, ht⟩ : ∃ t, isLet (bAt s i) = t := ⟨_, rfl⟩
          have HT : Hid (isLet (bAt s i) = t) := ht
          rw [← hbt, ht]
          clear hbt ht
          cases t with
          | true =>
            go_wp2_with fail
            go_roundw
            case rel =>
              refine ⟨i + 1, by omega, by go_num, fun j hj => ?_, HB.out⟩
              by_cases hji : j < i
              · exact HALL.out j hji
              · obtain rfl : j = i := by omega
                exact HT.out
            case measure => simp [intOf]; omega
          | false =>
            have HE : Hid (renE s ts = 21) := by
              show _ = _
              unfold renE
              rw [if_neg (by simpa using HX.out), if_neg (by simpa using h8), lets_no hlt HT.out]
              rfl
            go_wp2_with fail
            go_ret2
            exact ⟨_, by rw [HE.out]; rfl, by rw [renT_no HE.out (by decide)]; exact World.ownsRow_nil _ _ _ _, HB.out⟩
        · have hiI : ¬ (i : Int) < s.size := by omega
          obtain rfl : i = s.size := by omega
          have HE : Hid (renE s ts = 0) := by
            show _ = _
            unfold renE
            rw [if_neg (by simpa using HX.out), if_neg (by simpa using h8), lets_all HALL.out]
            rfl
          have HLT : Hid (∀ i, i < ts.length → good (ts.getD i (0, 0)) = true) := fun i hi => by
            obtain ⟨_, _, h, _⟩ := free_good HF.out hi
            exact h
          go_wp2_with fail
          refine (clone_any ⟨g, o, none⟩ cv ts _ (HV.out.stay HB.out) (by omega)).mono ?_
          rintro e w2 ⟨u, rfl, hu0, ho2, hb2⟩
          obtain ⟨ng, nc, rfl⟩ : ∃ ng nc, u = .slice (some ⟨ng, 0, none⟩) ts.length nc := by
            obtain ⟨_, h⟩ := ho2
            rcases h with ⟨_, h⟩ | ⟨g', cp, cur, h, _⟩
            · omega
            · exact ⟨g', cp, h⟩
          have HO2 : Hid (w2.ownsRow w.heap.size 36 2 (.slice (some ⟨ng, 0, none⟩) ts.length nc) ts.length (ndC (renTo s ts 0))) := own_mono ho2 HB.out.size
          have HB2 : Hid (Below w.heap.size w w2) := go_on HB.out hb2
          clear ho2 hb2 HB hu0
          go_wp2_with fail
          go_loopw [34] (fun vi wr => ∃ i : Nat, i ≤ ts.length ∧ vi = .int .i64 i ∧ wr.ownsRow w.heap.size 36 2 (.slice (some ⟨ng, 0, none⟩) ts.length nc) ts.length (ndC (renTo s ts i)) ∧ Below w.heap.size w wr) (fun vi _ => ts.length - (intOf vi).toNat)
          case atStart => exact ⟨0, Nat.zero_le _, rfl, HO2.out, HB2.out⟩
          case round =>
            clear HO2 HB2
            obtain ⟨i, hi, rfl, ho, hb⟩ := hrel
            have HO : Hid (wr.ownsRow w.heap.size 36 2 (.slice (some ⟨ng, 0, none⟩) ts.length nc) ts.length (ndC (renTo s ts i))) := ho
            have HB : Hid (Below w.heap.size w wr) := hb
            clear ho hb
            by_cases hlt : i < ts.length
            · have hiI : (i : Int) < ts.length := by omega
              have c0 := HO.out.cellAt (i * 2) (by omega)
              have c1 := HO.out.cellAt (i * 2 + 1) (by omega)
              have hrl := renTo_len s ts i
              rw [(ndC_at _ i (by omega) _ (renTo_get s ts i hlt)).1] at c0
              rw [(ndC_at _ i (by omega) _ (renTo_get s ts i hlt)).2] at c1
              have hgood := HLT.out i hlt
              have hnext := renTo_next s ts i hlt
              have hgt := renTo_get s ts i hlt
              obtain ⟨⟨k, sg⟩, hks⟩ : ∃ n, ts.getD i (0, 0) = n := ⟨_, rfl⟩
              rw [hks] at c0 c1 hgood hnext hgt
              simp only at c0 c1
              have HOA : Hid ((wr.alloc (.cells #[.int .i64 k, .int .u8 sg] 36)).ownsRow w.heap.size 36 2 (.slice (some ⟨ng, 0, none⟩) ts.length nc) ts.length (ndC (renTo s ts i))) := HO.out.alloc _
              have hng := (HO.out.lt ng rfl).2
              have hbw := (HO.out.lt ng rfl).1
              have HBA : Hid (Below w.heap.size w (wr.alloc (.cells #[.int .i64 k, .int .u8 sg] 36))) := HB.out.alloc HB.out.size _
              have f1 := fun O => (HO.out.alloc O).frozenAt (i * 2 + 1)
              have c1' := fun O => (HO.out.alloc O).cellAt (i * 2 + 1) (by omega)
              rw [(ndC_at _ i (by omega) _ (renTo_get s ts i hlt)).2, hks] at c1'
              simp only at c1'
              by_cases h3 : k = 3
              · subst h3
                have hq : ∃ q : Nat, sg = 97 + (q : Int) ∧ q < 8 := by
                  simp only [good, if_true, isLet, decide_eq_true_eq] at hgood
                  exact ⟨(sg - 97).toNat, by omega, by omega⟩
                obtain ⟨q, rfl, hq8⟩ := hq
                have hqs : (q : Int) < s.size := by omega
                have hbq := bAt_get s q (by omega)
                have HREN : Hid (renTo s ts (i + 1) = (renTo s ts i).set i (3, bAt s q)) := by
                  show _ = _
                  rw [hnext]
                  congr 1
                  simp only [ren, if_true]
                  congr 2
                  omega
                have HO3 : Hid (((wr.setCell ⟨ng, i * 2 + 1, none⟩ (.int .u8 (bAt s q))).alloc (.cells #[.int .i64 3, .int .u8 (97 + (q : Int))] 36)).ownsRow w.heap.size 36 2 (.slice (some ⟨ng, 0, none⟩) ts.length nc) ts.length (ndC (renTo s ts (i + 1)))) := by
                  have r := (HO.out.stored (i * 2 + 1) (.int .u8 (bAt s q))).1.alloc (.cells #[.int .i64 3, .int .u8 (97 + (q : Int))] 36)
                  rw [ndC_set_snd _ _ _ (by omega), hgt] at r
                  show World.ownsRow _ _ _ _ _ _ _
                  rw [HREN.out]
                  exact r
                have HB3 : Hid (Below w.heap.size w ((wr.setCell ⟨ng, i * 2 + 1, none⟩ (.int .u8 (bAt s q))).alloc (.cells #[.int .i64 3, .int .u8 (97 + (q : Int))] 36))) := (HB.out.setCell (p := ⟨ng, i * 2 + 1, none⟩) hbw _).alloc (by have := HB.out.size; simp; omega) _
                rw [hbq] at HO3 HB3
                clear hgood hnext hgt hks hbq hrl
                go_wp2_with fail
                go_roundw
                case rel => exact ⟨i + 1, by omega, by go_num, HO3.out, HB3.out⟩
                case measure => simp [intOf]; omega
              · have h3b : (k == 3) = false := by rw [beq_eq_false_iff_ne]; exact h3
                have HREN : Hid (renTo s ts (i + 1) = renTo s ts i) := by
                  show _ = _
                  rw [hnext]
                  simp only [ren, if_neg h3]
                  have := renTo_get s ts i hlt
                  rw [hks] at this
                  rw [← this, List.getD_eq_getElem?_getD, List.getElem?_eq_getElem (by omega)]
                  simp
                clear hgood hnext hgt hks hrl h3
                go_wp2_with fail
                go_roundw
                case rel => exact ⟨i + 1, by omega, by go_num, by rw [HREN.out]; exact HOA.out, HBA.out⟩
                case measure => simp [intOf]; omega
            · have hiI : ¬ (i : Int) < ts.length := by omega
              obtain rfl : i = ts.length := by omega
              go_wp2_with fail
              go_ret2
              refine ⟨_, by rw [HE.out]; rfl, ?_, HB.out⟩
              have ho := HO.out
              unfold renTo at ho
              rw [List.take_length, List.drop_length, List.append_nil] at ho
              rw [renT, if_pos HE.out, List.length_map]
              exact ho
    · have h8b : ((s.size : Int) != 8) = true := by simp; omega
      have HE : Hid (renE s ts = 1) := by
        show _ = _
        unfold renE
        rw [if_neg (by simpa using HX.out), if_pos h8]
      clear h8
      go_enter Tryd.func30, Tryd.ntmps30
      go_wp2_with fail
      refine (treeError_any _ ts _ HV.out hm HP.out).mono ?_
      rintro e w1 ⟨rfl, hb1⟩
      rw [HX.out]
      have HB1 : Hid (Below w.heap.size w w1) := hb1
      clear hb1
      go_wp2_with fail
      go_ret2
      exact ⟨_, by rw [HE.out]; rfl, by rw [renT_no HE.out (by decide)]; exact World.ownsRow_nil _ _ _ _, HB1.out⟩
  · obtain ⟨x, hx⟩ : ∃ x, wrong ts = x := ⟨_, rfl⟩
    have HE : Hid (renE s ts = x) := by
      show _ = _
      unfold renE
      rw [if_pos hbad, hx]
    rw [hx] at hbad
    have hxb : (x != 0) = true := by simpa using hbad
    have HX : Hid (wrong ts = x ∧ x ≠ 0) := ⟨hx, hbad⟩
    clear hx hbad hv
    go_enter Tryd.func30, Tryd.ntmps30
    go_wp2_with fail
    refine (treeError_any _ ts _ HV.out hm HP.out).mono ?_
    rintro e w1 ⟨rfl, hb1⟩
    rw [HX.out.1]
    have HB1 : Hid (Below w.heap.size w w1) := hb1
    clear hb1
    go_wp2_with fail
    go_ret2
    exact ⟨_, by rw [HE.out]; rfl, by rw [renT_no HE.out HX.out.2]; exact World.ownsRow_nil _ _ _ _, HB1.out⟩

/-- What Reverse answers. -/
noncomputable def revT (ts : List Nd) : List Nd :=
  open Classical in if h : ∃ t : Tr, t.ok ∧ t.flat = ts ∧ wrong ts = 0 then (Classical.choose h).rev.flat else []
theorem revT_bad {ts : List Nd} (h : wrong ts ≠ 0) : revT ts = [] := by
  unfold revT
  rw [dif_neg]
  rintro ⟨t, _, _, h0⟩
  exact h h0
theorem revT_good {ts : List Nd} (h : wrong ts = 0) : ∃ t : Tr, t.ok ∧ t.flat = ts ∧ revT ts = t.rev.flat := by
  obtain ⟨t, h1, h2⟩ := tr_of ts.length ts (Nat.le_refl _) (wrong_len h).2
  have hh : ∃ t : Tr, t.ok ∧ t.flat = ts ∧ wrong ts = 0 := ⟨t, h1, h2, h⟩
  refine ⟨Classical.choose hh, (Classical.choose_spec hh).1, (Classical.choose_spec hh).2.1, ?_⟩
  unfold revT
  rw [dif_pos hh]
theorem reverse_any (v : Value) (ts : List Nd) (w : World) (hv : NReads w v ts) (hm : ts.length ≤ 9223372036854775806) (hP : PTab w) :
    Calls Tryd.prog 29 #[v] w fun e w' => ∃ u, e = .returned (.tuple #[u, .int .i64 (wrong ts)]) ∧ w'.ownsRow w.heap.size 36 2 u (revT ts).length (ndC (revT ts)) ∧ Below w.heap.size w w' := by
  by_cases h : wrong ts = 0
  · obtain ⟨t, h1, h2, h3⟩ := revT_good h
    refine (reverse_good v ts w hv hP t h1 h2 (wrong_len h).1).mono ?_
    rintro e w' ⟨u, rfl, ho, hb⟩
    refine ⟨u, by rw [h], ?_, hb⟩
    rw [h3, Tr.rev_len, h2]
    exact ho
  · refine (reverse_bad v ts w hv hm hP h).mono ?_
    rintro e w' ⟨rfl, hb⟩
    exact ⟨_, rfl, by rw [revT_bad h]; exact World.ownsRow_nil _ _ _ _, hb⟩
end Go.Proofs.YtchaggigabccaaaDoor
