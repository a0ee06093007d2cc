/- terms.variablesOf: the variables that occur, in order. -/
import Derived.Test.YthhlamehbcidgaaY35
import Derived.Laws.IdiomStrings
import Derived.Laws.AppendOwn
namespace Go.Proofs.Ythhlamehbcidgaa
open Go Go.RowKit Go.Lib
set_option linter.unusedVariables false

theorem Try.info_u8 : (Try.prog.info? 5).map (fun i => (i.zero, i.size, i.bytes)) = some (some (.int .u8 0), 1, 1) := by kernel_rfl
/-- string(b) of an owned row of bytes. -/
theorem run_string_own (base : Nat) (v : Value) (l : List UInt8) (w : World) (hown : w.ownsRow base 5 1 v l.length (byteCells l)) :
    (convert 106 9 v).run Try.prog w = .ok (.string ⟨l.toArray⟩) w := by
  obtain ⟨h0, h⟩ := hown
  rcases h with ⟨rfl, hn⟩ | ⟨g, cap, cur, rfl, hb, h1, h2, h3, h4, h5⟩
  · have : l = [] := List.eq_nil_of_length_eq_zero hn
    subst this
    rw [run_convert_bytes_string w _ _ 5 none 0 0 Try.underlying106 Try.underlying5 Try.underlying9]
    rfl
  · refine run_convert_bytes_back w _ _ 5 ⟨g, 0, none⟩ cap l Try.underlying106 Try.underlying5 Try.underlying9 ?_
    intro j hj
    have hown : w.ownsRow base 5 1 (.slice (some ⟨g, 0, none⟩) l.length cap) l.length (byteCells l) := ⟨h0, .inr ⟨g, cap, cur, rfl, hb, h1, h2, h3, h4, h5⟩⟩
    refine hown.cells (g := g) rfl j _ ?_
    simp [byteCells, hj]
theorem own_snoc {w : World} {base n : Nat} {e : TypeId} {v : Value} {l : List UInt8} {c : UInt8} (h : w.ownsRow base e 1 v n (byteCells l ++ [Value.int .u8 (c.toNat : Int)])) : w.ownsRow base e 1 v n (byteCells (l ++ [c])) := by
  rw [byteCells_append]
  exact h
def xyz4 : List UInt8 := [120, 121, 122, 116]
/-- The variables that occur. -/
def vbs (Ls : List (List (Int × Nat))) (i : Nat) : List UInt8 := (xyz4.take i).filter fun b => Ls.any fun L => occ L b.toNat
theorem vbs_le (Ls : List (List (Int × Nat))) (i : Nat) : (vbs Ls i).length ≤ 4 := by
  unfold vbs
  have h1 := List.length_filter_le (fun b : UInt8 => Ls.any fun L => occ L b.toNat) (xyz4.take i)
  have h2 : (xyz4.take i).length ≤ 4 := by rw [List.length_take]; exact Nat.min_le_right _ _
  omega
theorem vbs_yes {Ls : List (List (Int × Nat))} {i : Nat} {c : UInt8} (hc : xyz4[i]? = some c) (h : (Ls.any fun L => occ L c.toNat) = true) : vbs Ls (i + 1) = vbs Ls i ++ [c] := by
  unfold vbs
  rw [List.take_add_one, hc, List.filter_append]
  simp only [Option.toList_some, List.filter_cons, h, if_true, List.filter_nil]
theorem vbs_no {Ls : List (List (Int × Nat))} {i : Nat} {c : UInt8} (hc : xyz4[i]? = some c) (h : (Ls.any fun L => occ L c.toNat) = false) : vbs Ls (i + 1) = vbs Ls i := by
  unfold vbs
  rw [List.take_add_one, hc, List.filter_append]
  simp [h]
theorem byteCells_len (l : List UInt8) : (byteCells l).length = l.length := by simp [byteCells]

set_option maxHeartbeats 8000000 in
set_option maxRecDepth 100000 in
theorem variablesOf_any (G : Nat) (vs : List Value) (Ls : List (List (Int × Nat))) (cap : Nat) (w : World) (h : SR w G vs Ls) (hL : Ls.length ≤ 40000) :
    Calls Try.prog 34 #[.slice (some ⟨G, 0, none⟩) Ls.length cap] w fun e w' => e = .returned (.string ⟨(vbs Ls 4).toArray⟩) ∧ Below w.heap.size w w' := by
  have HS : Hid (SR w G vs Ls) := h
  obtain ⟨i0, hi, hz0, hz1, hz2⟩ := info_parts Try.info_u8
  have HLL : Hid (Ls.length ≤ 40000) := hL
  clear h
  go_enter Try.func34, Try.ntmps34
  go_wp2_with fail
  go_loopw [3, 6] (fun vo vi wr => ∃ i : Nat, vi = .int .i64 (i : Nat) ∧ i ≤ 4 ∧ wr.ownsRow w.heap.size 5 1 vo (vbs Ls i).length (byteCells (vbs Ls i)) ∧ Below w.heap.size w wr) (fun _ vi _ => 4 - (Go.RowKit.intOf vi).toNat)
  case atStart => exact ⟨0, rfl, by omega, World.ownsRow_nil _ _ _ _, Below.refl _ _⟩
  case round =>
    obtain ⟨i, rfl, hin, ho, hb⟩ := hrel
    have HB : Hid (Below w.heap.size w wr) := hb
    obtain ⟨va, vc, rfl⟩ := own_shape ho
    have HO : Hid (wr.ownsRow w.heap.size 5 1 (.slice va (vbs Ls i).length vc) (vbs Ls i).length (byteCells (vbs Ls i))) := ho
    have hcv := run_string_own _ _ _ _ ho
    have hvl := vbs_le Ls i
    clear hb ho
    by_cases hlt : i < 4
    · have h4 : i = 0 ∨ i = 1 ∨ i = 2 ∨ i = 3 := by omega
      rcases h4 with rfl | rfl | rfl | rfl
      · clear hlt hin hcv
        have h4 : decide ((0 : Int) < 4) = true := rfl
        obtain ⟨w2, hw2⟩ : ∃ w2, w2 = wr.alloc (.cells #[.int .i64 2, .int .u8 120] 81) := ⟨_, rfl⟩
        have HW2 : Hid (w2 = wr.alloc (.cells #[.int .i64 2, .int .u8 120] 81)) := hw2
        have hb2 : Below wr.heap.size wr w2 := by rw [hw2]; exact below_new _ _
        have HV2 : Hid (VB w2 wr.heap.size 120) := by show VB _ _ _; unfold VB; rw [hw2]; exact heap_last _ _
        have HB2 : Hid (Below w.heap.size w w2) := go_on HB.out hb2
        have HO2 : Hid (w2.ownsRow w.heap.size 5 1 (.slice va (vbs Ls 0).length vc) (vbs Ls 0).length (byteCells (vbs Ls 0))) := own_below HO.out hb2
        have HC : Hid (Calls Try.prog 67 #[.slice (some ⟨G, 0, none⟩) Ls.length cap, .func (Fn.func 68) #[] #[.pointer (some ⟨wr.heap.size, 0, none⟩)]] w2 fun e w' => e = .returned (.bool (Ls.any fun L => occ L 120)) ∧ Below w2.heap.size w2 w') := containsFS_any G vs Ls wr.heap.size 120 cap w2 (HS.out.below HB2.out) HLL.out HV2.out
        clear hw2 hb2
        cases hp : (Ls.any fun L => occ L 120) with
        | true =>
          have hy := vbs_yes (Ls := Ls) (i := 0) (c := 120) rfl hp
          have HY : Hid (vbs Ls (0 + 1) = vbs Ls 0 ++ [120]) := hy
          rw [hp] at HC
          clear hy hp
          go_upto_region 6 with fail
          rw [show ((({ data := #[120, 121, 122, 116] } : ByteArray)[0].toNat : Nat) : Int) = 120 from rfl, ← HW2.out]
          go_wp2_with fail
          refine Calls.mono HC.out ?_
          rintro e w3 ⟨rfl, hb3⟩
          have HB3 : Hid (Below w.heap.size w w3) := go_on HB2.out hb3
          have HO3 : Hid (w3.ownsRow w.heap.size 5 1 (.slice va (vbs Ls 0).length vc) (vbs Ls 0).length (byteCells (vbs Ls 0))) := own_below HO2.out hb3
          have y0 : w3.cell? ⟨wr.heap.size, 1, none⟩ = some (.int .u8 120) := cell_at (HV2.out.below hb3) rfl
          clear hb3
          go_wp2_with (at_builtin; refine wpList_append_own _ rfl _ _ 106 rfl w.heap.size 5 i0 (.int .u8 0) 1 1 Try.underlying106 hi hz0 hz1 hz2 rfl (by decide) _ _ _ rfl (HO3.out.alloc _) ⟨w3.heap.size, 0, none⟩ 1 1 [.int .u8 120] rfl rfl (cell_one_new _ _ _) (by intro u hu; simp at hu; subst hu; rfl) (by unfold maxLen; omega) (by omega) (by have := HB3.out.size; simp; omega) ?_; intro v9 w9 ho9 hg9 _; have HO9 : Hid (w9.ownsRow w.heap.size 5 1 v9 (vbs Ls (0 + 1)).length (byteCells (vbs Ls (0 + 1)))) := (by show World.ownsRow _ _ _ _ _ _ _; rw [HY.out, List.length_append]; exact own_snoc (c := 120) ho9); obtain ⟨va9, vc9, rfl⟩ := own_shape ho9; have hb9 : Below w.heap.size w w9 := (HB3.out.alloc HB3.out.size _).grown hg9 (by have := HB3.out.size; simp; omega) (fun g hg => (HO3.out.lt g hg).1); have HB9 : Hid (Below w.heap.size w w9) := hb9; clear ho9 hg9 hb9)
          go_roundw
          case rel => exact ⟨0 + 1, by go_num, by omega, HO9.out, HB9.out⟩
          case measure => simp [Go.RowKit.intOf]
        | false =>
          have hy := vbs_no (Ls := Ls) (i := 0) (c := 120) rfl hp
          have HY : Hid (vbs Ls (0 + 1) = vbs Ls 0) := hy
          rw [hp] at HC
          clear hy hp
          go_upto_region 6 with fail
          rw [show ((({ data := #[120, 121, 122, 116] } : ByteArray)[0].toNat : Nat) : Int) = 120 from rfl, ← HW2.out]
          go_wp2_with fail
          refine Calls.mono HC.out ?_
          rintro e w3 ⟨rfl, hb3⟩
          have HB3 : Hid (Below w.heap.size w w3) := go_on HB2.out hb3
          have HO3 : Hid (w3.ownsRow w.heap.size 5 1 (.slice va (vbs Ls 0).length vc) (vbs Ls 0).length (byteCells (vbs Ls 0))) := own_below HO2.out hb3
          clear hb3
          go_wp2_with fail
          go_roundw
          case rel => exact ⟨0 + 1, by go_num, by omega, by rw [HY.out]; exact HO3.out, HB3.out⟩
          case measure => simp [Go.RowKit.intOf]
      · clear hlt hin hcv
        have h4 : decide ((1 : Int) < 4) = true := rfl
        obtain ⟨w2, hw2⟩ : ∃ w2, w2 = wr.alloc (.cells #[.int .i64 2, .int .u8 121] 81) := ⟨_, rfl⟩
        have HW2 : Hid (w2 = wr.alloc (.cells #[.int .i64 2, .int .u8 121] 81)) := hw2
        have hb2 : Below wr.heap.size wr w2 := by rw [hw2]; exact below_new _ _
        have HV2 : Hid (VB w2 wr.heap.size 121) := by show VB _ _ _; unfold VB; rw [hw2]; exact heap_last _ _
        have HB2 : Hid (Below w.heap.size w w2) := go_on HB.out hb2
        have HO2 : Hid (w2.ownsRow w.heap.size 5 1 (.slice va (vbs Ls 1).length vc) (vbs Ls 1).length (byteCells (vbs Ls 1))) := own_below HO.out hb2
        have HC : Hid (Calls Try.prog 67 #[.slice (some ⟨G, 0, none⟩) Ls.length cap, .func (Fn.func 68) #[] #[.pointer (some ⟨wr.heap.size, 0, none⟩)]] w2 fun e w' => e = .returned (.bool (Ls.any fun L => occ L 121)) ∧ Below w2.heap.size w2 w') := containsFS_any G vs Ls wr.heap.size 121 cap w2 (HS.out.below HB2.out) HLL.out HV2.out
        clear hw2 hb2
        cases hp : (Ls.any fun L => occ L 121) with
        | true =>
          have hy := vbs_yes (Ls := Ls) (i := 1) (c := 121) rfl hp
          have HY : Hid (vbs Ls (1 + 1) = vbs Ls 1 ++ [121]) := hy
          rw [hp] at HC
          clear hy hp
          go_upto_region 6 with fail
          rw [show ((({ data := #[120, 121, 122, 116] } : ByteArray)[1].toNat : Nat) : Int) = 121 from rfl, ← HW2.out]
          go_wp2_with fail
          refine Calls.mono HC.out ?_
          rintro e w3 ⟨rfl, hb3⟩
          have HB3 : Hid (Below w.heap.size w w3) := go_on HB2.out hb3
          have HO3 : Hid (w3.ownsRow w.heap.size 5 1 (.slice va (vbs Ls 1).length vc) (vbs Ls 1).length (byteCells (vbs Ls 1))) := own_below HO2.out hb3
          have y0 : w3.cell? ⟨wr.heap.size, 1, none⟩ = some (.int .u8 121) := cell_at (HV2.out.below hb3) rfl
          clear hb3
          go_wp2_with (at_builtin; refine wpList_append_own _ rfl _ _ 106 rfl w.heap.size 5 i0 (.int .u8 0) 1 1 Try.underlying106 hi hz0 hz1 hz2 rfl (by decide) _ _ _ rfl (HO3.out.alloc _) ⟨w3.heap.size, 0, none⟩ 1 1 [.int .u8 121] rfl rfl (cell_one_new _ _ _) (by intro u hu; simp at hu; subst hu; rfl) (by unfold maxLen; omega) (by omega) (by have := HB3.out.size; simp; omega) ?_; intro v9 w9 ho9 hg9 _; have HO9 : Hid (w9.ownsRow w.heap.size 5 1 v9 (vbs Ls (1 + 1)).length (byteCells (vbs Ls (1 + 1)))) := (by show World.ownsRow _ _ _ _ _ _ _; rw [HY.out, List.length_append]; exact own_snoc (c := 121) ho9); obtain ⟨va9, vc9, rfl⟩ := own_shape ho9; have hb9 : Below w.heap.size w w9 := (HB3.out.alloc HB3.out.size _).grown hg9 (by have := HB3.out.size; simp; omega) (fun g hg => (HO3.out.lt g hg).1); have HB9 : Hid (Below w.heap.size w w9) := hb9; clear ho9 hg9 hb9)
          go_roundw
          case rel => exact ⟨1 + 1, by go_num, by omega, HO9.out, HB9.out⟩
          case measure => simp [Go.RowKit.intOf]
        | false =>
          have hy := vbs_no (Ls := Ls) (i := 1) (c := 121) rfl hp
          have HY : Hid (vbs Ls (1 + 1) = vbs Ls 1) := hy
          rw [hp] at HC
          clear hy hp
          go_upto_region 6 with fail
          rw [show ((({ data := #[120, 121, 122, 116] } : ByteArray)[1].toNat : Nat) : Int) = 121 from rfl, ← HW2.out]
          go_wp2_with fail
          refine Calls.mono HC.out ?_
          rintro e w3 ⟨rfl, hb3⟩
          have HB3 : Hid (Below w.heap.size w w3) := go_on HB2.out hb3
          have HO3 : Hid (w3.ownsRow w.heap.size 5 1 (.slice va (vbs Ls 1).length vc) (vbs Ls 1).length (byteCells (vbs Ls 1))) := own_below HO2.out hb3
          clear hb3
          go_wp2_with fail
          go_roundw
          case rel => exact ⟨1 + 1, by go_num, by omega, by rw [HY.out]; exact HO3.out, HB3.out⟩
          case measure => simp [Go.RowKit.intOf]
      · clear hlt hin hcv
        have h4 : decide ((2 : Int) < 4) = true := rfl
        obtain ⟨w2, hw2⟩ : ∃ w2, w2 = wr.alloc (.cells #[.int .i64 2, .int .u8 122] 81) := ⟨_, rfl⟩
        have HW2 : Hid (w2 = wr.alloc (.cells #[.int .i64 2, .int .u8 122] 81)) := hw2
        have hb2 : Below wr.heap.size wr w2 := by rw [hw2]; exact below_new _ _
        have HV2 : Hid (VB w2 wr.heap.size 122) := by show VB _ _ _; unfold VB; rw [hw2]; exact heap_last _ _
        have HB2 : Hid (Below w.heap.size w w2) := go_on HB.out hb2
        have HO2 : Hid (w2.ownsRow w.heap.size 5 1 (.slice va (vbs Ls 2).length vc) (vbs Ls 2).length (byteCells (vbs Ls 2))) := own_below HO.out hb2
        have HC : Hid (Calls Try.prog 67 #[.slice (some ⟨G, 0, none⟩) Ls.length cap, .func (Fn.func 68) #[] #[.pointer (some ⟨wr.heap.size, 0, none⟩)]] w2 fun e w' => e = .returned (.bool (Ls.any fun L => occ L 122)) ∧ Below w2.heap.size w2 w') := containsFS_any G vs Ls wr.heap.size 122 cap w2 (HS.out.below HB2.out) HLL.out HV2.out
        clear hw2 hb2
        cases hp : (Ls.any fun L => occ L 122) with
        | true =>
          have hy := vbs_yes (Ls := Ls) (i := 2) (c := 122) rfl hp
          have HY : Hid (vbs Ls (2 + 1) = vbs Ls 2 ++ [122]) := hy
          rw [hp] at HC
          clear hy hp
          go_upto_region 6 with fail
          rw [show ((({ data := #[120, 121, 122, 116] } : ByteArray)[2].toNat : Nat) : Int) = 122 from rfl, ← HW2.out]
          go_wp2_with fail
          refine Calls.mono HC.out ?_
          rintro e w3 ⟨rfl, hb3⟩
          have HB3 : Hid (Below w.heap.size w w3) := go_on HB2.out hb3
          have HO3 : Hid (w3.ownsRow w.heap.size 5 1 (.slice va (vbs Ls 2).length vc) (vbs Ls 2).length (byteCells (vbs Ls 2))) := own_below HO2.out hb3
          have y0 : w3.cell? ⟨wr.heap.size, 1, none⟩ = some (.int .u8 122) := cell_at (HV2.out.below hb3) rfl
          clear hb3
          go_wp2_with (at_builtin; refine wpList_append_own _ rfl _ _ 106 rfl w.heap.size 5 i0 (.int .u8 0) 1 1 Try.underlying106 hi hz0 hz1 hz2 rfl (by decide) _ _ _ rfl (HO3.out.alloc _) ⟨w3.heap.size, 0, none⟩ 1 1 [.int .u8 122] rfl rfl (cell_one_new _ _ _) (by intro u hu; simp at hu; subst hu; rfl) (by unfold maxLen; omega) (by omega) (by have := HB3.out.size; simp; omega) ?_; intro v9 w9 ho9 hg9 _; have HO9 : Hid (w9.ownsRow w.heap.size 5 1 v9 (vbs Ls (2 + 1)).length (byteCells (vbs Ls (2 + 1)))) := (by show World.ownsRow _ _ _ _ _ _ _; rw [HY.out, List.length_append]; exact own_snoc (c := 122) ho9); obtain ⟨va9, vc9, rfl⟩ := own_shape ho9; have hb9 : Below w.heap.size w w9 := (HB3.out.alloc HB3.out.size _).grown hg9 (by have := HB3.out.size; simp; omega) (fun g hg => (HO3.out.lt g hg).1); have HB9 : Hid (Below w.heap.size w w9) := hb9; clear ho9 hg9 hb9)
          go_roundw
          case rel => exact ⟨2 + 1, by go_num, by omega, HO9.out, HB9.out⟩
          case measure => simp [Go.RowKit.intOf]
        | false =>
          have hy := vbs_no (Ls := Ls) (i := 2) (c := 122) rfl hp
          have HY : Hid (vbs Ls (2 + 1) = vbs Ls 2) := hy
          rw [hp] at HC
          clear hy hp
          go_upto_region 6 with fail
          rw [show ((({ data := #[120, 121, 122, 116] } : ByteArray)[2].toNat : Nat) : Int) = 122 from rfl, ← HW2.out]
          go_wp2_with fail
          refine Calls.mono HC.out ?_
          rintro e w3 ⟨rfl, hb3⟩
          have HB3 : Hid (Below w.heap.size w w3) := go_on HB2.out hb3
          have HO3 : Hid (w3.ownsRow w.heap.size 5 1 (.slice va (vbs Ls 2).length vc) (vbs Ls 2).length (byteCells (vbs Ls 2))) := own_below HO2.out hb3
          clear hb3
          go_wp2_with fail
          go_roundw
          case rel => exact ⟨2 + 1, by go_num, by omega, by rw [HY.out]; exact HO3.out, HB3.out⟩
          case measure => simp [Go.RowKit.intOf]
      · clear hlt hin hcv
        have h4 : decide ((3 : Int) < 4) = true := rfl
        obtain ⟨w2, hw2⟩ : ∃ w2, w2 = wr.alloc (.cells #[.int .i64 2, .int .u8 116] 81) := ⟨_, rfl⟩
        have HW2 : Hid (w2 = wr.alloc (.cells #[.int .i64 2, .int .u8 116] 81)) := hw2
        have hb2 : Below wr.heap.size wr w2 := by rw [hw2]; exact below_new _ _
        have HV2 : Hid (VB w2 wr.heap.size 116) := by show VB _ _ _; unfold VB; rw [hw2]; exact heap_last _ _
        have HB2 : Hid (Below w.heap.size w w2) := go_on HB.out hb2
        have HO2 : Hid (w2.ownsRow w.heap.size 5 1 (.slice va (vbs Ls 3).length vc) (vbs Ls 3).length (byteCells (vbs Ls 3))) := own_below HO.out hb2
        have HC : Hid (Calls Try.prog 67 #[.slice (some ⟨G, 0, none⟩) Ls.length cap, .func (Fn.func 68) #[] #[.pointer (some ⟨wr.heap.size, 0, none⟩)]] w2 fun e w' => e = .returned (.bool (Ls.any fun L => occ L 116)) ∧ Below w2.heap.size w2 w') := containsFS_any G vs Ls wr.heap.size 116 cap w2 (HS.out.below HB2.out) HLL.out HV2.out
        clear hw2 hb2
        cases hp : (Ls.any fun L => occ L 116) with
        | true =>
          have hy := vbs_yes (Ls := Ls) (i := 3) (c := 116) rfl hp
          have HY : Hid (vbs Ls (3 + 1) = vbs Ls 3 ++ [116]) := hy
          rw [hp] at HC
          clear hy hp
          go_upto_region 6 with fail
          rw [show ((({ data := #[120, 121, 122, 116] } : ByteArray)[3].toNat : Nat) : Int) = 116 from rfl, ← HW2.out]
          go_wp2_with fail
          refine Calls.mono HC.out ?_
          rintro e w3 ⟨rfl, hb3⟩
          have HB3 : Hid (Below w.heap.size w w3) := go_on HB2.out hb3
          have HO3 : Hid (w3.ownsRow w.heap.size 5 1 (.slice va (vbs Ls 3).length vc) (vbs Ls 3).length (byteCells (vbs Ls 3))) := own_below HO2.out hb3
          have y0 : w3.cell? ⟨wr.heap.size, 1, none⟩ = some (.int .u8 116) := cell_at (HV2.out.below hb3) rfl
          clear hb3
          go_wp2_with (at_builtin; refine wpList_append_own _ rfl _ _ 106 rfl w.heap.size 5 i0 (.int .u8 0) 1 1 Try.underlying106 hi hz0 hz1 hz2 rfl (by decide) _ _ _ rfl (HO3.out.alloc _) ⟨w3.heap.size, 0, none⟩ 1 1 [.int .u8 116] rfl rfl (cell_one_new _ _ _) (by intro u hu; simp at hu; subst hu; rfl) (by unfold maxLen; omega) (by omega) (by have := HB3.out.size; simp; omega) ?_; intro v9 w9 ho9 hg9 _; have HO9 : Hid (w9.ownsRow w.heap.size 5 1 v9 (vbs Ls (3 + 1)).length (byteCells (vbs Ls (3 + 1)))) := (by show World.ownsRow _ _ _ _ _ _ _; rw [HY.out, List.length_append]; exact own_snoc (c := 116) ho9); obtain ⟨va9, vc9, rfl⟩ := own_shape ho9; have hb9 : Below w.heap.size w w9 := (HB3.out.alloc HB3.out.size _).grown hg9 (by have := HB3.out.size; simp; omega) (fun g hg => (HO3.out.lt g hg).1); have HB9 : Hid (Below w.heap.size w w9) := hb9; clear ho9 hg9 hb9)
          go_roundw
          case rel => exact ⟨3 + 1, by go_num, by omega, HO9.out, HB9.out⟩
          case measure => simp [Go.RowKit.intOf]
        | false =>
          have hy := vbs_no (Ls := Ls) (i := 3) (c := 116) rfl hp
          have HY : Hid (vbs Ls (3 + 1) = vbs Ls 3) := hy
          rw [hp] at HC
          clear hy hp
          go_upto_region 6 with fail
          rw [show ((({ data := #[120, 121, 122, 116] } : ByteArray)[3].toNat : Nat) : Int) = 116 from rfl, ← HW2.out]
          go_wp2_with fail
          refine Calls.mono HC.out ?_
          rintro e w3 ⟨rfl, hb3⟩
          have HB3 : Hid (Below w.heap.size w w3) := go_on HB2.out hb3
          have HO3 : Hid (w3.ownsRow w.heap.size 5 1 (.slice va (vbs Ls 3).length vc) (vbs Ls 3).length (byteCells (vbs Ls 3))) := own_below HO2.out hb3
          clear hb3
          go_wp2_with fail
          go_roundw
          case rel => exact ⟨3 + 1, by go_num, by omega, by rw [HY.out]; exact HO3.out, HB3.out⟩
          case measure => simp [Go.RowKit.intOf]
    · have e4 : i = 4 := by omega
      subst e4
      have h4 : decide ((4 : Int) < 4) = false := rfl
      clear hlt hin
      go_wp2_with fail
      go_ret
      exact ⟨rfl, HB.out⟩
end Go.Proofs.Ythhlamehbcidgaa
