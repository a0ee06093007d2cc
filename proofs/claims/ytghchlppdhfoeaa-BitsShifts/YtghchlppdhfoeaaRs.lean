/- Contract of the document's Shift. -/
import Derived.Test.YtghchlppdhfoeaaRl
import Derived.Test.YtghchlppdhfoeaaBd
namespace Go.Proofs.Ytghchlppdhfoeaa
open Go.RowKit Go.Lib

/-- The first c numbers of a list, moved, as far as they are numbers of a set. -/
def shL (xs : List Int) (n : Int) (c : Nat) : List Int := ((xs.take c).map fun x => x + n).filter inSet
theorem shL_succ (xs : List Int) (n : Int) (c : Nat) (h : c < xs.length) : shL xs n (c + 1) = shL xs n c ++ if inSet (xs.getD c 0 + n) then [xs.getD c 0 + n] else [] := by
  unfold shL
  rw [List.take_add_one, List.map_append, List.filter_append]
  congr 1
  simp only [List.getElem?_eq_getElem h, Option.toList_some, List.map_cons, List.map_nil, List.getD_eq_getElem?_getD, Option.getD_some]
  by_cases hs : inSet (xs[c] + n) <;> simp [hs]
theorem shL_le (xs : List Int) (n : Int) (c : Nat) : (shL xs n c).length ≤ xs.length := by
  unfold shL
  refine Nat.le_trans (List.length_filter_le _ _) ?_
  rw [List.length_map, List.length_take]
  omega
theorem of_shL {N : Nat} (hN : Fits N) (n : Int) (h1 : -512 < n) (h2 : n < 512) : ofN (shL (lst N 512) n (lst N 512).length) = shiftN N n := by
  have e : (shL (lst N 512) n (lst N 512).length).all inSet = true := by
    unfold shL
    rw [List.all_eq_true]
    intro x hx
    exact (List.mem_filter.1 hx).2
  rw [ofN, if_pos e]
  apply Nat.eq_of_testBit_eq
  intro i
  rw [testBit_ofL]
  have key : (∃ x ∈ shL (lst N 512) n (lst N 512).length, x.toNat = i) ↔ (i < 512 ∧ ∃ j : Nat, j < 512 ∧ N.testBit j = true ∧ (j : Int) + n = i) := by
    unfold shL
    rw [List.take_length]
    constructor
    · rintro ⟨x, hx, rfl⟩
      obtain ⟨h3, h4⟩ := List.mem_filter.1 hx
      obtain ⟨y, hy, rfl⟩ := List.mem_map.1 h3
      obtain ⟨j, hj, hb, rfl⟩ := mem_lst.1 hy
      simp [inSet] at h4
      exact ⟨by omega, j, hj, hb, by omega⟩
    · rintro ⟨hi, j, hj, hb, he⟩
      refine ⟨(i : Int), List.mem_filter.2 ⟨List.mem_map.2 ⟨(j : Int), mem_lst.2 ⟨j, hj, hb, rfl⟩, he⟩, ?_⟩, Int.toNat_natCast i⟩
      simp [inSet]
      omega
  rw [decide_eq_decide.2 key]
  unfold shiftN
  rw [if_neg (by omega)]
  by_cases hneg : n < 0
  · rw [if_pos hneg, testBit_down, Bool.eq_iff_iff, decide_eq_true_iff]
    constructor
    · rintro ⟨hi, j, hj, hb, he⟩
      rw [show i + (-n).toNat = j by omega]
      exact hb
    · intro hb
      have hlt : i + (-n).toNat < 512 := by
        by_cases h : i + (-n).toNat < 512
        · exact h
        · rw [hN _ (by omega)] at hb; simp at hb
      exact ⟨by omega, i + (-n).toNat, hlt, hb, by omega⟩
  · rw [if_neg hneg, testBit_up, Bool.eq_iff_iff, decide_eq_true_iff]
    simp only [Bool.and_eq_true, decide_eq_true_eq]
    constructor
    · rintro ⟨hi, j, hj, hb, he⟩
      refine ⟨hi, by omega, ?_⟩
      rw [show i - n.toNat = j by omega]
      exact hb
    · rintro ⟨hi, hle, hb⟩
      exact ⟨hi, i - n.toNat, by omega, hb, by omega⟩
theorem lst_get {N c : Nat} (h : c < (lst N 512).length) : 0 ≤ (lst N 512).getD c 0 ∧ (lst N 512).getD c 0 < 512 := by
  have hm : (lst N 512).getD c 0 ∈ lst N 512 := by simp [h]
  obtain ⟨j, hj, _, e⟩ := mem_lst.1 hm
  omega

set_option maxHeartbeats 4000000 in
set_option maxRecDepth 100000 in
theorem rshift_any (N : Nat) (hN : Fits N) (n : Int) (w : World) :
    Calls Try.prog 21 #[setV N, .int .i64 n] w fun e w' => e = .returned (setV (shiftN N n)) ∧ Below w.heap.size w w' := by
  have H0 : Hid (PutAt w (word N) ((w.alloc (.cells (cellsF (word N)) 24)).alloc (.cells #[.int .u64 0, .int .u64 0, .int .u64 0, .int .u64 0, .int .u64 0, .int .u64 0, .int .u64 0, .int .u64 0] 24))) := PutAt.start w N
  unfold setV cellsF
  unfold cellsF at H0
  by_cases h1 : -512 < n
  · by_cases h2 : n < 512
    · obtain ⟨i0, hi, hz0, hz1, hz2⟩ := info_parts Try.info_int
      go_enter Try.func21, Try.ntmps21
      go_wp2_with fail
      refine (rlist_any N _).mono ?_
      rintro e W ⟨va, rfl, hall, hb1⟩
      have H1 : Hid (PutAt w (word N) W) := H0.out.stay hb1
      have HR : Hid (Reads W va (lst N 512)) := own_reads hall
      have HO := of_shL hN n h1 h2
      have HOH : Hid _ := HO
      have hlen := lst_le N 512
      have HG : Hid (∀ c, c < (lst N 512).length → 0 ≤ (lst N 512).getD c 0 ∧ (lst N 512).getD c 0 < 512) := fun c h => lst_get h
      clear hb1 H0 hall HO
      obtain ⟨xs, hxs⟩ : ∃ xs, lst N 512 = xs := ⟨_, rfl⟩
      rw [hxs] at HR HOH hlen HG
      clear hxs
      obtain ⟨aa, ca, hva, hrd⟩ := HR.out
      subst hva
      have HRD : Hid _ := hrd
      clear hrd HR
      go_wp2_with fail
      go_loopw [5, 7] (fun l vk wr => ∃ (c : Nat), vk = .int .i64 c ∧ c ≤ xs.length ∧ wr.ownsRow W.heap.size 3 1 l (shL xs n c).length (zC (shL xs n c)) ∧ Below W.heap.size W wr) (fun _ vk _ => xs.length - (intOf vk).toNat)
      case atStart => exact ⟨0, rfl, Nat.zero_le _, by show World.ownsRow _ _ _ _ _ 0 []; exact World.ownsRow_nil _ _ _ _, Below.refl _ _⟩
      case round =>
        obtain ⟨i, rfl, hi5, hown2, hb3⟩ := hrel
        obtain ⟨a, cap, rfl⟩ := own_shape hown2
        by_cases hlt : i < xs.length
        · have hiI : (i : Int) < xs.length := by omega
          have hps := shL_succ xs n i hlt
          have hpl := shL_le xs n i
          obtain ⟨g, o, rfl, hg, hcell⟩ := HRD.out i hlt
          rw [← below_cell hb3 hg] at hcell
          have hgx := HG.out i hlt
          obtain ⟨x, hx⟩ : ∃ x, xs.getD i 0 = x := ⟨_, rfl⟩
          rw [hx] at hps hcell hgx
          obtain ⟨gx0, gx5⟩ := hgx
          clear hx
          by_cases hin : inSet (x + n) = true
          · have hin2 : 0 ≤ x + n ∧ x + n < 512 := of_decide_eq_true hin
            obtain ⟨in0, in5⟩ := hin2
            rw [if_pos hin] at hps
            have HS2 : Hid (shL xs n (i + 1) = shL xs n i ++ [x + n]) := hps
            clear hps hin
            go_wp2_with (at_builtin; refine wpList_append_own _ rfl _ _ 34 rfl W.heap.size 3 i0 (.int .i64 0) 1 8 Try.underlying34 hi hz0 hz1 hz2 rfl (by decide) _ _ _ rfl (hown2.alloc _) ⟨wr.heap.size, 0, none⟩ 1 1 [.int .i64 (x + n)] rfl rfl ?c1 ?c2 ?c3 ?c4 ?c5 ?_)
            case c1 => exact cell_one_new _ _ _
            case c2 => intro u hu; simp at hu; subst hu; rfl
            case c3 => unfold maxLen; omega
            case c4 => omega
            case c5 => have := hb3.size; simp; omega
            intro v' w4 hown' hgrow _
            have R : w4.ownsRow W.heap.size 3 1 v' (shL xs n (i + 1)).length (zC (shL xs n (i + 1))) := by
              rw [HS2.out, zC_append, List.length_append]
              exact hown'
            have hb4 : Below W.heap.size W w4 := (hb3.alloc hb3.size _).grown hgrow (by have := hb3.size; simp; omega) (fun g hg => (hown2.lt g hg).1)
            clear hown' hgrow hown2
            go_wp2
            go_roundw
            case rel => exact ⟨i + 1, by go_num, by omega, R, hb4⟩
            case measure => simp [intOf]; omega
          · have hin2 : ¬ (0 ≤ x + n ∧ x + n < 512) := fun h => hin (decide_eq_true h)
            rw [if_neg hin, List.append_nil] at hps
            have HS2 : Hid _ := hps
            clear hps hin
            by_cases in0 : 0 ≤ x + n
            all_goals
              first
                | (have in5 : ¬ x + n < 512 := by omega)
                | skip
              clear hin2
              go_wp2_with fail
              go_roundw
              case rel => exact ⟨i + 1, by go_num, by omega, by rw [HS2.out]; exact hown2, hb3⟩
              case measure => simp [intOf]; omega
        · have : i = xs.length := by omega
          subst this
          have H2 : Hid (PutAt w (word N) wr) := H1.out.stay hb3
          have HRr : Hid _ := own_reads hown2
          have hpl := shL_le xs n xs.length
          clear hown2 hb3
          go_wp2_with fail
          refine (rof_any _ _ _ HRr.out (by omega)).mono ?_
          rintro e w5 ⟨rfl, hb5⟩
          rw [HOH.out]
          unfold setV cellsF
          have H6 : Hid (PutAt w (word N) w5) := H2.out.stay hb5
          clear hb5 H2
          have d0 := fun O => (Cells8.alloc (H6.out.res) O).get (show 0 < 8 by decide)
          have d1 := fun O => (Cells8.alloc (H6.out.res) O).get (show 1 < 8 by decide)
          have d2 := fun O => (Cells8.alloc (H6.out.res) O).get (show 2 < 8 by decide)
          have d3 := fun O => (Cells8.alloc (H6.out.res) O).get (show 3 < 8 by decide)
          have d4 := fun O => (Cells8.alloc (H6.out.res) O).get (show 4 < 8 by decide)
          have d5 := fun O => (Cells8.alloc (H6.out.res) O).get (show 5 < 8 by decide)
          have d6 := fun O => (Cells8.alloc (H6.out.res) O).get (show 6 < 8 by decide)
          have d7 := fun O => (Cells8.alloc (H6.out.res) O).get (show 7 < 8 by decide)
          have f0 := fun O => (Cells8.alloc (H6.out.res) O).frozen 0
          have f1 := fun O => (Cells8.alloc (H6.out.res) O).frozen 1
          have f2 := fun O => (Cells8.alloc (H6.out.res) O).frozen 2
          have f3 := fun O => (Cells8.alloc (H6.out.res) O).frozen 3
          have f4 := fun O => (Cells8.alloc (H6.out.res) O).frozen 4
          have f5 := fun O => (Cells8.alloc (H6.out.res) O).frozen 5
          have f6 := fun O => (Cells8.alloc (H6.out.res) O).frozen 6
          have f7 := fun O => (Cells8.alloc (H6.out.res) O).frozen 7
          go_wp2_with fail
          obtain ⟨h8, hB⟩ := st8 (H6.out.res.alloc _) (H6.out.below.alloc H6.out.below.size _) (by omega) (word (shiftN N n)) rfl rfl rfl rfl rfl rfl rfl rfl
          exact bodyPost_ret (results_set rfl rfl h8) rfl ⟨rfl, hB⟩
    · have HS : Hid (shiftN N n = 0) := by show shiftN N n = 0; rw [shiftN, if_pos (by omega)]
      have HRr : Hid (Reads ((w.alloc (.cells #[.int .u64 (word N 0 : Nat), .int .u64 (word N 1 : Nat), .int .u64 (word N 2 : Nat), .int .u64 (word N 3 : Nat), .int .u64 (word N 4 : Nat), .int .u64 (word N 5 : Nat), .int .u64 (word N 6 : Nat), .int .u64 (word N 7 : Nat)] 24)).alloc (.cells #[.int .u64 0, .int .u64 0, .int .u64 0, .int .u64 0, .int .u64 0, .int .u64 0, .int .u64 0, .int .u64 0] 24)) (.slice none 0 0) []) := ⟨none, 0, rfl, fun i hi => by simp at hi⟩
      go_enter Try.func21, Try.ntmps21
      go_wp2_with fail
      refine (rof_any _ _ _ HRr.out (by decide)).mono ?_
      rintro e w5 ⟨rfl, hb5⟩
      rw [show ofN [] = 0 from rfl]
      unfold setV cellsF
      have H6 : Hid (PutAt w (word N) w5) := H0.out.stay hb5
      clear hb5 H0
      have d0 := fun O => (Cells8.alloc (H6.out.res) O).get (show 0 < 8 by decide)
      have d1 := fun O => (Cells8.alloc (H6.out.res) O).get (show 1 < 8 by decide)
      have d2 := fun O => (Cells8.alloc (H6.out.res) O).get (show 2 < 8 by decide)
      have d3 := fun O => (Cells8.alloc (H6.out.res) O).get (show 3 < 8 by decide)
      have d4 := fun O => (Cells8.alloc (H6.out.res) O).get (show 4 < 8 by decide)
      have d5 := fun O => (Cells8.alloc (H6.out.res) O).get (show 5 < 8 by decide)
      have d6 := fun O => (Cells8.alloc (H6.out.res) O).get (show 6 < 8 by decide)
      have d7 := fun O => (Cells8.alloc (H6.out.res) O).get (show 7 < 8 by decide)
      have f0 := fun O => (Cells8.alloc (H6.out.res) O).frozen 0
      have f1 := fun O => (Cells8.alloc (H6.out.res) O).frozen 1
      have f2 := fun O => (Cells8.alloc (H6.out.res) O).frozen 2
      have f3 := fun O => (Cells8.alloc (H6.out.res) O).frozen 3
      have f4 := fun O => (Cells8.alloc (H6.out.res) O).frozen 4
      have f5 := fun O => (Cells8.alloc (H6.out.res) O).frozen 5
      have f6 := fun O => (Cells8.alloc (H6.out.res) O).frozen 6
      have f7 := fun O => (Cells8.alloc (H6.out.res) O).frozen 7
      go_wp2_with fail
      obtain ⟨h8, hB⟩ := st8 (H6.out.res.alloc _) (H6.out.below.alloc H6.out.below.size _) (by omega) (word 0) rfl rfl rfl rfl rfl rfl rfl rfl
      refine bodyPost_ret (results_set rfl rfl h8) rfl ⟨?_, hB⟩
      rw [HS.out]
      rfl
  · have HS : Hid (shiftN N n = 0) := by show shiftN N n = 0; rw [shiftN, if_pos (by omega)]
    have HRr : Hid (Reads ((w.alloc (.cells #[.int .u64 (word N 0 : Nat), .int .u64 (word N 1 : Nat), .int .u64 (word N 2 : Nat), .int .u64 (word N 3 : Nat), .int .u64 (word N 4 : Nat), .int .u64 (word N 5 : Nat), .int .u64 (word N 6 : Nat), .int .u64 (word N 7 : Nat)] 24)).alloc (.cells #[.int .u64 0, .int .u64 0, .int .u64 0, .int .u64 0, .int .u64 0, .int .u64 0, .int .u64 0, .int .u64 0] 24)) (.slice none 0 0) []) := ⟨none, 0, rfl, fun i hi => by simp at hi⟩
    go_enter Try.func21, Try.ntmps21
    go_wp2_with fail
    refine (rof_any _ _ _ HRr.out (by decide)).mono ?_
    rintro e w5 ⟨rfl, hb5⟩
    rw [show ofN [] = 0 from rfl]
    unfold setV cellsF
    have H6 : Hid (PutAt w (word N) w5) := H0.out.stay hb5
    clear hb5 H0
    have d0 := fun O => (Cells8.alloc (H6.out.res) O).get (show 0 < 8 by decide)
    have d1 := fun O => (Cells8.alloc (H6.out.res) O).get (show 1 < 8 by decide)
    have d2 := fun O => (Cells8.alloc (H6.out.res) O).get (show 2 < 8 by decide)
    have d3 := fun O => (Cells8.alloc (H6.out.res) O).get (show 3 < 8 by decide)
    have d4 := fun O => (Cells8.alloc (H6.out.res) O).get (show 4 < 8 by decide)
    have d5 := fun O => (Cells8.alloc (H6.out.res) O).get (show 5 < 8 by decide)
    have d6 := fun O => (Cells8.alloc (H6.out.res) O).get (show 6 < 8 by decide)
    have d7 := fun O => (Cells8.alloc (H6.out.res) O).get (show 7 < 8 by decide)
    have f0 := fun O => (Cells8.alloc (H6.out.res) O).frozen 0
    have f1 := fun O => (Cells8.alloc (H6.out.res) O).frozen 1
    have f2 := fun O => (Cells8.alloc (H6.out.res) O).frozen 2
    have f3 := fun O => (Cells8.alloc (H6.out.res) O).frozen 3
    have f4 := fun O => (Cells8.alloc (H6.out.res) O).frozen 4
    have f5 := fun O => (Cells8.alloc (H6.out.res) O).frozen 5
    have f6 := fun O => (Cells8.alloc (H6.out.res) O).frozen 6
    have f7 := fun O => (Cells8.alloc (H6.out.res) O).frozen 7
    go_wp2_with fail
    obtain ⟨h8, hB⟩ := st8 (H6.out.res.alloc _) (H6.out.below.alloc H6.out.below.size _) (by omega) (word 0) rfl rfl rfl rfl rfl rfl rfl rfl
    refine bodyPost_ret (results_set rfl rfl h8) rfl ⟨?_, hB⟩
    rw [HS.out]
    rfl

end Go.Proofs.Ytghchlppdhfoeaa
