/- The library's proved contract of strings.Repeat, laid at this program (the numbers are this program's); the contract of the document's Power. -/
import Derived.Shelf.Strings.Repeat
import Derived.Test.YtocdifclkopbcaaPow
namespace Go.Proofs.Ytocdifclkopbcaa
open Go.RowKit Go.Shelf

def renRp : Go.Shelf.Ren := ⟨fun | 105 => 40 | 212 => 49 | 99 => 50 | 165 => 51 | 166 => 41 | 170 => 52 | 169 => 42 | 263 => 58 | 264 => 59 | 206 => 60 | 240 => 53 | 241 => 61 | 276 => 62 | 277 => 63 | n => n, fun | 0 => 0 | 3 => 3 | 4 => 4 | 5 => 5 | 9 => 9 | 20 => 20 | 37 => 65 | 46 => 81 | 51 => 89 | 53 => 32 | 70 => 68 | 72 => 70 | 75 => 72 | 76 => 73 | 80 => 75 | 109 => 82 | 127 => 87 | 146 => 90 | 148 => 92 | 164 => 94 | n => n, fun | n => n⟩
theorem laysRp : Go.Proofs.Lays.n105 Try.prog renRp := {
  mixed := by kernel_rfl
  f99 := Try.func50.trans (congrArg some (by kernel_rfl))
  f105 := Try.func40.trans (congrArg some (by kernel_rfl))
  f165 := Try.func51.trans (congrArg some (by kernel_rfl))
  f166 := Try.func41.trans (congrArg some (by kernel_rfl))
  f169 := Try.func42.trans (congrArg some (by kernel_rfl))
  f170 := Try.func52.trans (congrArg some (by kernel_rfl))
  f206 := Try.func60.trans (congrArg some (by kernel_rfl))
  f212 := Try.func49.trans (congrArg some (by kernel_rfl))
  f240 := Try.func53.trans (congrArg some (by kernel_rfl))
  f241 := Try.func61.trans (congrArg some (by kernel_rfl))
  f263 := Try.func58.trans (congrArg some (by kernel_rfl))
  f264 := Try.func59.trans (congrArg some (by kernel_rfl))
  f276 := Try.func62.trans (congrArg some (by kernel_rfl))
  f277 := Try.func63.trans (congrArg some (by kernel_rfl))
  t0 := Try.underlying0
  a0 := Try.isAgg0
  z0 := Try.sizeOf0
  v0 := Try.zeroValue0
  t3 := Try.underlying3
  a3 := Try.isAgg3
  z3 := Try.sizeOf3
  v3 := Try.zeroValue3
  t4 := Try.underlying4
  a4 := Try.isAgg4
  z4 := Try.sizeOf4
  v4 := Try.zeroValue4
  t5 := Try.underlying5
  a5 := Try.isAgg5
  z5 := Try.sizeOf5
  v5 := Try.zeroValue5
  t9 := Try.underlying9
  a9 := Try.isAgg9
  z9 := Try.sizeOf9
  v9 := Try.zeroValue9
  t20 := Try.underlying20
  a20 := Try.isAgg20
  z20 := Try.sizeOf20
  v20 := Try.zeroValue20
  t37 := Try.underlying65
  a37 := Try.isAgg65
  z37 := Try.sizeOf65
  v37 := Try.zeroValue65
  t46 := Try.underlying81
  a46 := Try.isAgg81
  z46 := Try.sizeOf81
  v46 := Try.zeroValue81
  t51 := Try.underlying89
  a51 := Try.isAgg89
  z51 := Try.sizeOf89
  v51 := Try.zeroValue89
  t53 := Try.underlying32
  a53 := Try.isAgg32
  z53 := Try.sizeOf32
  v53 := Try.zeroValue32
  t70 := Try.underlying68
  a70 := Try.isAgg68
  z70 := Try.sizeOf68
  v70 := Try.zeroValue68
  t72 := Try.underlying70
  a72 := Try.isAgg70
  z72 := Try.sizeOf70
  v72 := Try.zeroValue70
  t75 := Try.underlying72
  a75 := Try.isAgg72
  z75 := Try.sizeOf72
  v75 := Try.zeroValue72
  t76 := Try.underlying73
  a76 := Try.isAgg73
  z76 := Try.sizeOf73
  v76 := Try.zeroValue73
  t109 := Try.underlying82
  a109 := Try.isAgg82
  z109 := Try.sizeOf82
  v109 := Try.zeroValue82
  t127 := Try.underlying87
  a127 := Try.isAgg87
  z127 := Try.sizeOf87
  v127 := Try.zeroValue87
  t146 := Try.underlying90
  a146 := Try.isAgg90
  z146 := Try.sizeOf90
  v146 := Try.zeroValue90
  t148 := Try.underlying92
  a148 := Try.isAgg92
  z148 := Try.sizeOf92
  v148 := Try.zeroValue92
  t164 := Try.underlying94
  a164 := Try.isAgg94
  z164 := Try.sizeOf94
  v164 := Try.zeroValue94 }
theorem extraRp : Builder.Extra Try.prog renRp := {
  sizeBuilder := by kernel_rfl
  liesBuilder := by kernel_rfl
  t5 := Try.underlying5
  a5 := Try.isAgg5
  z5 := Try.sizeOf5
  v5 := Try.zeroValue5
  infoByte := by kernel_rfl
  cellsByte := by kernel_rfl
  sizeByte := by kernel_rfl
  neB5 := by decide }
theorem repeat_any (s : ByteArray) (c : Nat) (w : World) (hc : c ≤ 9223372036854775807) (hlen : s.size * c ≤ 140737488355328) :
    Calls Try.prog 40 #[.string s, .int .i64 c] w fun e w' => e = .returned (.string ⟨(Lib.repeatL s.data.toList c).toArray⟩) ∧ Below w.heap.size w w' := Any.strings_Repeat laysRp extraRp s c w hc hlen
theorem pow_comm (U : List UInt8) : ∀ n, U ++ powL U n = powL U n ++ U
  | 0 => by simp [powL]
  | n + 1 => by rw [powL, ← List.append_assoc, pow_comm U n]
theorem repeat_pow (U : List UInt8) : ∀ n, Lib.repeatL U n = powL U n
  | 0 => rfl
  | n + 1 => by
    have ih := repeat_pow U n
    rw [Lib.repeatL, ih, powL]
    exact pow_comm U n

set_option maxHeartbeats 1000000 in
theorem rpower_err (k : Int) (U : List UInt8) (n : Int) (w : World) (hs : U.length ≤ 9223372036854775807) (hc : chk k (str U) ≠ 0) :
    Calls Try.prog 23 #[.int .i64 k, .string (str U), .int .i64 n] w fun e w' => e = .returned (.tuple #[.string ⟨#[]⟩, .int .i64 (chk k (str U))]) ∧ Below w.heap.size w w' := by
  have hg : (chk k (str U) != 0) = true := by simpa using hc
  clear hc
  go_enter Try.func23, Try.ntmps23
  go_wp2_with fail
  refine (rcheck_any _ _ _ (by rw [str_size]; unfold maxLen; omega)).mono ?_
  rintro e w1 ⟨rfl, b1⟩
  go_wp2_with fail
  go_ret2
  exact ⟨rfl, b1⟩

set_option maxHeartbeats 1000000 in
theorem rpower_none (k : Int) (U : List UInt8) (n : Int) (w : World) (hs : U.length ≤ 9223372036854775807) (hc : chk k (str U) = 0) (h : n < 0 ∨ U = [] ∨ 4096 / (U.length : Int) < n) :
    Calls Try.prog 23 #[.int .i64 k, .string (str U), .int .i64 n] w fun e w' => e = .returned (.tuple #[.string ⟨#[]⟩, .int .i64 (powE U n)]) ∧ Below w.heap.size w w' := by
  have HC : Hid (chk k (str U) = 0) := hc
  clear hc
  have hml : (str U).size ≤ maxLen := by rw [str_size]; unfold maxLen; omega
  have HML : Hid _ := hml
  clear hml
  by_cases hn : n < 0
  · have HE : Hid (powE U n = 1) := by show powE U n = 1; unfold powE; rw [if_pos hn]
    clear h
    go_enter Try.func23, Try.ntmps23
    go_wp2_with fail
    refine (rcheck_any _ _ _ HML.out).mono ?_
    rintro e w1 ⟨rfl, b1⟩
    rw [HC.out]
    go_wp2_with fail
    go_ret2
    exact ⟨ret_tup rfl HE.out.symm, b1⟩
  by_cases h0 : U = []
  · have HE : Hid (powE U n = 0) := by show powE U n = 0; unfold powE; rw [if_neg hn, if_pos h0]
    have hsz : (str U).size = 0 := by rw [str_size, h0]; rfl
    have hd : decide ((0 : Int) < ((str U).size : Int)) = false := by rw [hsz]; rfl
    clear h h0
    go_enter Try.func23, Try.ntmps23
    go_wp2_with fail
    refine (rcheck_any _ _ _ HML.out).mono ?_
    rintro e w1 ⟨rfl, b1⟩
    rw [HC.out]
    go_wp2_with fail
    go_ret2
    exact ⟨ret_tup rfl HE.out.symm, b1⟩
  have hq : 4096 / (U.length : Int) < n := by
    rcases h with h | h | h
    · omega
    · exact absurd h h0
    · exact h
  have HE : Hid (powE U n = 6) := by show powE U n = 6; unfold powE; rw [if_neg hn, if_neg h0, if_pos hq]
  have hpos : 0 < U.length := List.length_pos_iff.2 h0
  have hsz := str_size U
  have hposI : (0 : Int) < (U.length : Int) := by omega
  have hd0 : 0 ≤ (4096 : Int) / (U.length : Int) := Int.ediv_nonneg (by omega) (by omega)
  have hd1 : (4096 : Int) / (U.length : Int) ≤ 4096 := Int.ediv_le_self _ (by omega)
  clear h h0
  go_enter Try.func23, Try.ntmps23
  go_wp2_with fail
  refine (rcheck_any _ _ _ HML.out).mono ?_
  rintro e w1 ⟨rfl, b1⟩
  rw [HC.out]
  go_wp2_with fail
  go_ret2
  exact ⟨ret_tup rfl HE.out.symm, b1⟩

set_option maxHeartbeats 1000000 in
theorem rpower_do (k : Int) (U : List UInt8) (n : Nat) (w : World) (hs : U.length ≤ 9223372036854775807) (hc : chk k (str U) = 0) (h0 : U ≠ []) (hn : n ≤ 4096 / U.length) :
    Calls Try.prog 23 #[.int .i64 k, .string (str U), .int .i64 n] w fun e w' => e = .returned (.tuple #[.string (str (powL U n)), .int .i64 0]) ∧ Below w.heap.size w w' := by
  have HC : Hid (chk k (str U) = 0) := hc
  have HML : Hid ((str U).size ≤ maxLen) := by show (str U).size ≤ maxLen; rw [str_size]; unfold maxLen; omega
  have hpos : 0 < U.length := List.length_pos_iff.2 h0
  have HM : Hid (U.length * n ≤ 4096) := by
    have := Nat.mul_le_mul_left U.length hn
    have := Nat.mul_div_le 4096 U.length
    show U.length * n ≤ 4096
    omega
  have hq : ¬ (4096 : Int) / (U.length : Int) < (n : Int) := by
    have e : (4096 : Int) / (U.length : Int) = ((4096 / U.length : Nat) : Int) := by simp
    rw [e]
    omega
  have hn4 : n ≤ 4096 := Nat.le_trans hn (Nat.div_le_self _ _)
  have hsz := str_size U
  have hposI : (0 : Int) < (U.length : Int) := by omega
  have hne : ((U.length : Int) == 0) = false := by rw [beq_eq_false_iff_ne]; omega
  have hd0 : 0 ≤ (4096 : Int) / (U.length : Int) := Int.ediv_nonneg (by omega) (by omega)
  have hd1 : (4096 : Int) / (U.length : Int) ≤ 4096 := Int.ediv_le_self _ (by omega)
  clear hc h0 hn
  go_enter Try.func23, Try.ntmps23
  go_wp2_with fail
  refine (rcheck_any _ _ _ HML.out).mono ?_
  rintro e w1 ⟨rfl, b1⟩
  rw [HC.out]
  go_wp2_with fail
  refine (repeat_any (str U) n _ (by omega) (by rw [str_size]; have := HM.out; omega)).mono ?_
  rintro e w2 ⟨rfl, b2⟩
  rw [str_list, repeat_pow]
  go_wp2_with fail
  go_ret2
  exact ⟨rfl, go_on b1 b2⟩

end Go.Proofs.Ytocdifclkopbcaa
