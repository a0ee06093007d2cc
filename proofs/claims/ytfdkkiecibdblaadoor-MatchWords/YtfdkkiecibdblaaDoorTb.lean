/- Contracts of tree.isLetter, tree.isNode and tree.treeError. -/
import Derived.Test.YtfdkkiecibdblaaDoorTa
import Derived.Deep.DeepCutAuto
namespace Go.Proofs.YtfdkkiecibdblaaDoor
open Go.RowKit

set_option maxHeartbeats 1000000 in
theorem isLetter_any (s : Int) (w : World) :
    Calls Tryd.prog 87 #[.int .u8 s] w fun e w' => e = .returned (.bool (isLet s)) ∧ w' = w := by
  by_cases h1 : 97 ≤ s
  · by_cases h2 : s ≤ 104
    · have HC : Hid (isLet s = true) := by show _ = _; simp [isLet]; omega
      go_enter Tryd.func87, Tryd.ntmps87
      go_wp2
      go_ret
      exact ⟨ret_bool HC.out.symm, rfl⟩
    · have HC : Hid (isLet s = false) := by show _ = _; simp [isLet]; omega
      go_enter Tryd.func87, Tryd.ntmps87
      go_wp2
      go_ret
      exact ⟨ret_bool HC.out.symm, rfl⟩
  · have HC : Hid (isLet s = false) := by show _ = _; simp [isLet]; omega
    go_enter Tryd.func87, Tryd.ntmps87
    go_wp2
    go_ret
    exact ⟨ret_bool HC.out.symm, rfl⟩

set_option maxHeartbeats 1000000 in
set_option maxRecDepth 100000 in
theorem isNode_any (n : Nd) (w : World) :
    Calls Tryd.prog 83 #[ndV n] w fun e w' => e = .returned (.bool (good n)) ∧ Below w.heap.size w w' := by
  obtain ⟨k, s⟩ := n
  unfold ndV
  have BB := (Below.refl w.heap.size w).alloc (Nat.le_refl _) (.cells #[.int .i64 k, .int .u8 s] 55)
  have HB : Hid _ := BB
  clear BB
  by_cases h3 : k = 3
  · have HC : Hid (good (k, s) = isLet s) := by show _ = _; simp [good, h3]
    subst h3
    go_enter Tryd.func83, Tryd.ntmps83
    go_wp2_with (go_at_call 87; refine (isLetter_any s _).mono ?_; rintro e w1 ⟨rfl, rfl⟩)
    go_ret
    exact ⟨ret_bool HC.out.symm, HB.out⟩
  · have h3b : (k == 3) = false := by simpa using h3
    by_cases h1 : 1 ≤ k
    · by_cases h9 : k ≤ 9
      · by_cases h0 : s = 0
        · have HC : Hid (good (k, s) = true) := by show _ = _; simp [good, h3]; omega
          subst h0
          go_enter Tryd.func83, Tryd.ntmps83
          go_wp2_with fail
          go_ret
          exact ⟨ret_bool HC.out.symm, HB.out⟩
        · have HC : Hid (good (k, s) = false) := by show _ = _; simp [good, h3]; omega
          have h0b : (s == 0) = false := by simpa using h0
          go_enter Tryd.func83, Tryd.ntmps83
          go_wp2_with fail
          go_ret
          exact ⟨ret_bool HC.out.symm, HB.out⟩
      · have HC : Hid (good (k, s) = false) := by show _ = _; simp [good, h3]; omega
        go_enter Tryd.func83, Tryd.ntmps83
        go_wp2_with fail
        go_ret
        exact ⟨ret_bool HC.out.symm, HB.out⟩
    · have HC : Hid (good (k, s) = false) := by show _ = _; simp [good, h3]; omega
      go_enter Tryd.func83, Tryd.ntmps83
      go_wp2_with fail
      go_ret
      exact ⟨ret_bool HC.out.symm, HB.out⟩

set_option maxHeartbeats 2000000 in
set_option maxRecDepth 100000 in
theorem treeError_any (v : Value) (ts : List Nd) (w : World) (hv : NReads w v ts) (hm : ts.length ≤ 9223372036854775806) (hP : PTab w) :
    Calls Tryd.prog 73 #[v] w fun e w' => e = .returned (.int .i64 (wrong ts)) ∧ Below w.heap.size w w' := by
  obtain ⟨a, cap, rfl, hr⟩ := hv
  have HR : Hid _ := hr
  have HP : Hid (PTab w) := hP
  clear hr hP
  by_cases hbig : 4000 < ts.length
  · have HW : Hid (wrong ts = 6) := by show _ = _; rw [wrong, if_pos hbig]
    have hbI : (4000 : Int) < ts.length := by omega
    go_enter Tryd.func73, Tryd.ntmps73
    go_wp2_with fail
    go_ret
    exact ⟨ret_int HW.out.symm, Below.refl _ _⟩
  · have HW : Hid (wrong ts = if freeN ts = some 1 then 0 else 30) := by show _ = _; rw [wrong, if_neg hbig]
    have hbI : ¬ (4000 : Int) < ts.length := by omega
    go_enter Tryd.func73, Tryd.ntmps73
    go_wp2_with fail
    go_loopw [3, 11] (fun vf vi wr => ∃ i f : Nat, i ≤ ts.length ∧ vi = .int .i64 i ∧ vf = .int .i64 f ∧ freeN (ts.take i) = some f ∧ Below w.heap.size w wr) (fun _ vi _ => ts.length - (intOf vi).toNat)
    case atStart => exact ⟨0, 0, Nat.zero_le _, rfl, rfl, rfl, Below.refl _ _⟩
    case round =>
      obtain ⟨i, f, hi, rfl, rfl, hf, hb⟩ := hrel
      have hfi := free_le ts i hi f hf
      have HF : Hid (freeN (ts.take i) = some f) := hf
      have HB : Hid (Below w.heap.size w wr) := hb
      clear hf
      by_cases hlt : i < ts.length
      · have hiI : (i : Int) < ts.length := by omega
        obtain ⟨g, o, rfl, hg, h1, h2⟩ := HR.out i hlt
        have hst := free_take hlt
        rw [HF.out, Option.bind_some] at hst
        obtain ⟨⟨k, s⟩, hn⟩ : ∃ n, ts.getD i (0, 0) = n := ⟨_, rfl⟩
        rw [hn] at h1 h2 hst
        have c1 : wr.cell? ⟨g, o + i * 2, none⟩ = some (.int .i64 k) := by rw [below_cell hb hg]; exact h1
        have c2 : wr.cell? ⟨g, o + i * 2 + 1, none⟩ = some (.int .u8 s) := by rw [below_cell hb hg]; exact h2
        have HST : Hid _ := hst
        clear hst hn h1 h2 hb
        by_cases hg3 : good (k, s) = true
        · obtain ⟨hk1, hk9⟩ := good_kind hg3
          simp only at hk1 hk9
          obtain ⟨j, rfl⟩ : ∃ j : Nat, k = j := ⟨k.toNat, by omega⟩
          have hj9 : j < 10 := by omega
          have hjI : (j : Int) < 10 := by omega
          have hcp := HP.out.below HB.out HP.out.pos j hj9
          have hw0 : 1 < wr.heap.size := Nat.lt_of_lt_of_le HP.out.pos HB.out.size
          have HG : Hid (good ((j : Int), s) = true) := hg3
          have hal := arity_le (j : Int)
          obtain ⟨r, hrd⟩ : ∃ r, arity (j : Int) = r := ⟨_, rfl⟩
          rw [hrd] at hcp hal
          have HST2 : Hid (freeN (ts.take (i + 1)) = if good ((j : Int), s) = true ∧ arity (j : Int) ≤ f then some (f - arity (j : Int) + 1) else none) := HST.out
          rw [hrd, HG.out] at HST2
          clear hg3 hrd HST
          by_cases hrf : r ≤ f
          · have HS3 : Hid (freeN (ts.take (i + 1)) = some (f - r + 1)) := by show _ = _; rw [HST2.out, if_pos ⟨rfl, hrf⟩]
            have hrI : ¬ (f : Int) < (r : Int) := by omega
            clear HST2
            go_wp2_with fail
            refine (isNode_any ((j : Int), s) _).mono ?_
            rintro e w1 ⟨rfl, hb1⟩
            rw [HG.out]
            have rn := (RowAt.last wr #[.int .i64 (j : Int), .int .u8 s] 55).stay hb1
            have cn := rn.cell
            have cp : w1.cell? ⟨1, j, none⟩ = some (.int .i64 (r : Int)) := by rw [below_cell hb1 (by first | (simp; done) | (simp; omega)), below_cell ((Below.refl wr.heap.size wr).alloc (Nat.le_refl _) _) hw0]; exact hcp
            have HB1 : Hid (Below w.heap.size w w1) := go_on (HB.out.alloc HB.out.size _) hb1
            clear hb1 hcp c1 c2
            go_wp2_with fail
            go_roundw
            case rel => exact ⟨i + 1, f - r + 1, by omega, by go_num, by go_num, HS3.out, HB1.out⟩
            case measure => simp [intOf]; omega
          · have HS3 : Hid (freeN ts = none) := free_stop (by rw [HST2.out, if_neg (by simp; omega)])
            have hrI : (f : Int) < (r : Int) := by omega
            clear HST2
            go_wp2_with fail
            refine (isNode_any ((j : Int), s) _).mono ?_
            rintro e w1 ⟨rfl, hb1⟩
            rw [HG.out]
            have rn := (RowAt.last wr #[.int .i64 (j : Int), .int .u8 s] 55).stay hb1
            have cn := rn.cell
            have cp : w1.cell? ⟨1, j, none⟩ = some (.int .i64 (r : Int)) := by rw [below_cell hb1 (by first | (simp; done) | (simp; omega)), below_cell ((Below.refl wr.heap.size wr).alloc (Nat.le_refl _) _) hw0]; exact hcp
            have HB1 : Hid (Below w.heap.size w w1) := go_on (HB.out.alloc HB.out.size _) hb1
            clear hb1 hcp c1 c2
            go_wp2_with fail
            go_ret
            exact ⟨ret_int (by rw [HW.out, HS3.out]; rfl), HB1.out⟩
        · have hg4 : good (k, s) = false := by simpa using hg3
          have HS3 : Hid (freeN ts = none) := free_stop (by rw [HST.out, if_neg (by simp [hg4])])
          have HG : Hid (good (k, s) = false) := hg4
          clear hg3 hg4 HST
          go_wp2_with fail
          refine (isNode_any (k, s) _).mono ?_
          rintro e w1 ⟨rfl, hb1⟩
          rw [HG.out]
          have HB1 : Hid (Below w.heap.size w w1) := go_on (HB.out.alloc HB.out.size _) hb1
          clear hb1 c1 c2
          go_wp2_with fail
          go_ret
          exact ⟨ret_int (by rw [HW.out, HS3.out]; rfl), HB1.out⟩
      · have hiI : ¬ (i : Int) < ts.length := by omega
        have HE : Hid (freeN ts = some f) := by show _ = _; have := HF.out; rwa [show i = ts.length by omega, List.take_length] at this
        by_cases hf1 : f = 1
        · subst hf1
          clear hb
          go_wp2_with fail
          go_ret
          exact ⟨ret_int (by rw [HW.out, HE.out]; rfl), HB.out⟩
        · have hf1b : ((f : Int) != 1) = true := by simp; omega
          have HN : Hid (¬ f = 1) := hf1
          clear hb hf1
          go_wp2_with fail
          go_ret
          exact ⟨ret_int (by rw [HW.out, HE.out, if_neg (by simp; exact HN.out)]), HB.out⟩

end Go.Proofs.YtfdkkiecibdblaaDoor
