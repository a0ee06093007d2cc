/- Words: check, letters, Power, strings.Repeat (out of stage 1's texts). -/
import Derived.Shelf.Strings.Builder1
import Derived.Shelf.Strings.Repeat
import Derived.WalkKit
import Derived.WalkLawsBesides
import Derived.WalkSpells
import Derived.Test.YthhlamehbcidgaaY55
namespace Go.Proofs.Ythhlamehbcidgaa
open Go Go.RowKit Go.Shelf
set_option linter.unusedVariables false

theorem ret_tup {k : IntKind} {v v' : Value} {a b : Int} (h : v = v') (g : a = b) : Ending.returned (.tuple #[v, .int k a]) = .returned (.tuple #[v', .int k b]) := by rw [h, g]
def str (l : List UInt8) : ByteArray := ⟨l.toArray⟩
theorem str_size (l : List UInt8) : (str l).size = l.length := by simp [str, ByteArray.size]
theorem str_list (l : List UInt8) : (str l).data.toList = l := by simp [str]


/-- The place i holds one of the first k letters. -/
def letterAt (k : Int) (c : UInt8) : Bool := decide (97 ≤ (c.toNat : Int) ∧ (c.toNat : Int) < 97 + k)
/-- What Check answers. -/
def chk (k : Int) (s : ByteArray) : Int := if k < 1 ∨ 8 < k then 20 else if s.data.toList.all (letterAt k) then 0 else 21

theorem chk_bad (k : Int) (s : ByteArray) (h : k < 1 ∨ 8 < k) : chk k s = 20 := by simp [chk, h]
theorem chk_ok (k : Int) (s : ByteArray) (h1 : 1 ≤ k) (h8 : k ≤ 8) (h : ∀ i (hi : i < s.size), letterAt k s[i] = true) : chk k s = 0 := by
  have e : s.data.toList.all (letterAt k) = true := by
    rw [List.all_eq_true]
    intro x hx
    obtain ⟨i, hi, rfl⟩ := List.mem_iff_getElem.1 hx
    exact h i (by simpa using hi)
  unfold chk
  rw [if_neg (by omega), if_pos e]
theorem chk_no (k : Int) (s : ByteArray) (h1 : 1 ≤ k) (h8 : k ≤ 8) (i : Nat) (hi : i < s.size) (h : letterAt k s[i] = false) : chk k s = 21 := by
  have e : ¬ s.data.toList.all (letterAt k) = true := by
    rw [List.all_eq_true]
    intro hx
    have := hx s[i] (by exact List.getElem_mem (l := s.data.toList) (by simpa using hi))
    rw [h] at this
    exact absurd this (by simp)
  unfold chk
  rw [if_neg (by omega), if_neg e]

/-- What Letters answers. -/
def lett (k : Int) : Int := if k < 1 ∨ 8 < k then 20 else 0
theorem lett_no (k : Int) (h : k < 1 ∨ 8 < k) : lett k = 20 := by simp [lett, h]
theorem lett_ok (k : Int) (h1 : 1 ≤ k) (h8 : k ≤ 8) : lett k = 0 := by unfold lett; rw [if_neg (by omega)]
theorem ret_int {k : IntKind} {a b : Int} (h : a = b) : Ending.returned (.int k a) = .returned (.int k b) := by rw [h]

set_option maxHeartbeats 400000 in
set_option maxRecDepth 100000 in
theorem check_any (k : Int) (s : ByteArray) (w : World) :
    Calls Try.prog 41 #[.int .i64 k, .string s] w fun e w' => e = .returned (.int .i64 (chk k s)) ∧ Below w.heap.size w w' := by
  by_cases hk1 : k < 1
  · go_enter Try.func41, Try.ntmps41
    go_wp2
    go_ret
    exact ⟨ret_int (chk_bad k s (.inl hk1)).symm, Below.refl _ _⟩
  by_cases hk8 : 8 < k
  · go_enter Try.func41, Try.ntmps41
    go_wp2
    go_ret
    exact ⟨ret_int (chk_bad k s (.inr hk8)).symm, Below.refl _ _⟩
  have h1 : 1 ≤ k := by omega
  have h8 : k ≤ 8 := by omega
  have hd1 : decide (k < 1) = false := by simpa using h1
  have hd8 : decide (8 < k) = false := by simpa using h8
  clear hk1 hk8
  go_enter Try.func41, Try.ntmps41
  go_wp2
  go_loopw [] (fun w' => ∃ (pos : Nat), w' = w.iter s pos ∧ (∀ i (hi : i < s.size), i < pos → letterAt k s[i] = true)) (fun w' => s.size - w'.iterPos w.heap.size)
  case atStart => exact ⟨0, rfl, fun i _ h => by omega⟩
  case round =>
    obtain ⟨pos, rfl, hall⟩ := hrel
    have HA : Hid (∀ i (hi : i < s.size), i < pos → letterAt k s[i] = true) := hall
    clear hall
    have hbel : ∀ p, Below w.heap.size w (w.iter s p) := fun p => (Below.refl _ _).alloc (Nat.le_refl _) _
    by_cases hp : pos < s.size
    · by_cases ha : (s[pos]'hp).toNat < 128
      · have hnx : ∀ ty, (Instr.next (.pointer (some ⟨w.heap.size, 0, none⟩)) true ty).run Try.prog (w.iter s pos) = _ := fun ty => run_next_ascii w s pos ty hp ha
        by_cases hl : (s[pos].toNat : Int) < 97
        · go_wp2
          go_ret
          exact ⟨ret_int (chk_no k s h1 h8 pos hp (by simp [letterAt]; omega)).symm, hbel _⟩
        by_cases hg : 97 + k ≤ (s[pos].toNat : Int)
        · go_wp2
          go_ret
          exact ⟨ret_int (chk_no k s h1 h8 pos hp (by simp [letterAt]; omega)).symm, hbel _⟩
        · go_wp2
          go_roundw
          case rel =>
            refine ⟨pos + 1, rfl, fun i hi hlt => ?_⟩
            by_cases he : i = pos
            · subst he
              simp [letterAt]; omega
            · exact HA.out i hi (by omega)
          case measure =>
            simp; omega
      · have hnx : ∀ ty, (Instr.next (.pointer (some ⟨w.heap.size, 0, none⟩)) true ty).run Try.prog (w.iter s pos) = _ := fun ty => run_next_any w s pos ty hp
        have hhi := (decode_high s pos hp (by omega)).1
        have hle := decode_le s pos
        have hl : ¬ ((Utf8.decode s pos).1 : Int) < 97 := by omega
        have hg : 97 + k ≤ ((Utf8.decode s pos).1 : Int) := by omega
        go_wp2
        go_ret
        exact ⟨ret_int (chk_no k s h1 h8 pos hp (by simp [letterAt]; omega)).symm, hbel _⟩
    · have hnx : ∀ ty, (Instr.next (.pointer (some ⟨w.heap.size, 0, none⟩)) true ty).run Try.prog (w.iter s pos) = _ := fun ty => run_next_end w s pos ty hp
      go_wp2
      go_ret
      exact ⟨ret_int (chk_ok k s h1 h8 (fun i hi => HA.out i hi (by omega))).symm, hbel _⟩

set_option maxHeartbeats 400000 in
theorem letters_any (k : Int) (w : World) :
    Calls Try.prog 46 #[.int .i64 k] w fun e w' => e = .returned (.int .i64 (lett k)) ∧ w' = w := by
  by_cases hk1 : k < 1
  · go_enter Try.func46, Try.ntmps46
    go_wp2
    go_ret
    exact ⟨ret_int (lett_no k (.inl hk1)).symm, rfl⟩
  by_cases hk8 : 8 < k
  · go_enter Try.func46, Try.ntmps46
    go_wp2
    go_ret
    exact ⟨ret_int (lett_no k (.inr hk8)).symm, rfl⟩
  go_enter Try.func46, Try.ntmps46
  go_wp2
  go_ret
  exact ⟨ret_int (lett_ok k (by omega) (by omega)).symm, rfl⟩

set_option maxHeartbeats 400000 in
theorem rword_any (k : Int) (s : ByteArray) (w : World) (hs : s.size ≤ maxLen) :
    Calls Try.prog 48 #[.int .i64 k, .string s] w fun e w' => e = .returned (.int .i64 (chk k s)) ∧ Below w.heap.size w w' := by
  unfold maxLen at hs
  by_cases hk : k < 1 ∨ 8 < k
  · have hb := chk_bad k s hk
    have HB : Hid (chk k s = 20) := hb
    clear hb
    go_enter Try.func48, Try.ntmps48
    go_wp2_with (go_at_call 46; refine (letters_any k _).mono ?_; rintro e w1 ⟨rfl, rfl⟩; rw [lett_no k hk])
    go_ret
    exact ⟨ret_int HB.out.symm, Below.refl _ _⟩
  · have h1 : 1 ≤ k := by omega
    have h8 : k ≤ 8 := by omega
    clear hk
    go_enter Try.func48, Try.ntmps48
    go_wp2_with (go_at_call 46; refine (letters_any k _).mono ?_; rintro e w1 ⟨rfl, rfl⟩; rw [lett_ok k h1 h8])
    go_loop [6] (fun i => ∃ n : Nat, n ≤ s.size ∧ i = .int .i64 n ∧ (∀ i (hi : i < s.size), i < n → letterAt k s[i] = true)) (fun i => s.size - (intOf i).toNat)
    case atStart => exact ⟨0, Nat.zero_le _, rfl, fun i _ h => by omega⟩
    case round =>
      obtain ⟨n, hn, rfl, hall⟩ := hrel
      have HA : Hid (∀ i (hi : i < s.size), i < n → letterAt k s[i] = true) := hall
      clear hall
      by_cases hlt : n < s.size
      · by_cases hl : (s[n].toNat : Int) < 97
        · go_wp2
          go_ret
          exact ⟨ret_int (chk_no k s h1 h8 n hlt (by simp [letterAt]; omega)).symm, Below.refl _ _⟩
        have hb : s[n].toNat < 256 := s[n].toNat_lt
        by_cases hg : k ≤ ((s[n].toNat : Int) - 97) % 256
        · go_wp2
          go_ret
          exact ⟨ret_int (chk_no k s h1 h8 n hlt (by simp [letterAt]; omega)).symm, Below.refl _ _⟩
        · go_wp2
          go_round
          case rel =>
            refine ⟨n + 1, by omega, by go_num, fun i hi hlt => ?_⟩
            by_cases he : i = n
            · subst he
              simp [letterAt]; omega
            · exact HA.out i hi (by omega)
          case measure => simp [intOf]; omega
      · go_wp2
        go_ret
        exact ⟨ret_int (chk_ok k s h1 h8 (fun i hi => HA.out i hi (by omega))).symm, Below.refl _ _⟩




def renWr : Go.Shelf.Ren := ⟨fun | 166 => 107 | 240 => 123 | 276 => 133 | n => n, fun | 0 => 0 | 3 => 3 | 4 => 4 | 5 => 5 | 9 => 9 | 20 => 20 | 37 => 106 | 70 => 139 | 72 => 141 | 75 => 143 | 80 => 108 | 164 => 167 | n => n, fun | n => n⟩
theorem laysWr : Go.Proofs.Lays.n166 Try.prog renWr := {
  mixed := by kernel_rfl
  f166 := Try.func107.trans (congrArg some (by kernel_rfl))
  f240 := Try.func123.trans (congrArg some (by kernel_rfl))
  f276 := Try.func133.trans (congrArg some (by kernel_rfl))
  t0 := Try.underlying0
  a0 := Try.isAgg0
  z0 := Try.sizeOf0
  v0 := Try.zeroValue0
  t3 := Try.underlying3
  a3 := Try.isAgg3
  z3 := Try.sizeOf3
  v3 := Try.zeroValue3
  t4 := Try.underlying4
  a4 := Try.isAgg4
  z4 := Try.sizeOf4
  v4 := Try.zeroValue4
  t9 := Try.underlying9
  a9 := Try.isAgg9
  z9 := Try.sizeOf9
  v9 := Try.zeroValue9
  t20 := Try.underlying20
  a20 := Try.isAgg20
  z20 := Try.sizeOf20
  v20 := Try.zeroValue20
  t37 := Try.underlying106
  a37 := Try.isAgg106
  z37 := Try.sizeOf106
  v37 := Try.zeroValue106
  t70 := Try.underlying139
  a70 := Try.isAgg139
  z70 := Try.sizeOf139
  v70 := Try.zeroValue139
  t72 := Try.underlying141
  a72 := Try.isAgg141
  z72 := Try.sizeOf141
  v72 := Try.zeroValue141
  t75 := Try.underlying143
  a75 := Try.isAgg143
  z75 := Try.sizeOf143
  v75 := Try.zeroValue143
  t164 := Try.underlying167
  a164 := Try.isAgg167
  z164 := Try.sizeOf167
  v164 := Try.zeroValue167 }
theorem extraWr : Builder.Extra Try.prog renWr := {
  sizeBuilder := by kernel_rfl
  liesBuilder := by kernel_rfl
  t5 := Try.underlying5
  a5 := Try.isAgg5
  z5 := Try.sizeOf5
  v5 := Try.zeroValue5
  infoByte := by kernel_rfl
  cellsByte := by kernel_rfl
  sizeByte := by kernel_rfl
  neB5 := by decide }
def renSt : Go.Shelf.Ren := ⟨fun | 169 => 108 | n => n, fun | 0 => 0 | 3 => 3 | 5 => 5 | 9 => 9 | 37 => 106 | 70 => 139 | 72 => 141 | 127 => 146 | n => n, fun | n => n⟩
theorem laysSt : Go.Proofs.Lays.n169 Try.prog renSt := {
  mixed := by kernel_rfl
  f169 := Try.func108.trans (congrArg some (by kernel_rfl))
  t0 := Try.underlying0
  a0 := Try.isAgg0
  z0 := Try.sizeOf0
  v0 := Try.zeroValue0
  t3 := Try.underlying3
  a3 := Try.isAgg3
  z3 := Try.sizeOf3
  v3 := Try.zeroValue3
  t9 := Try.underlying9
  a9 := Try.isAgg9
  z9 := Try.sizeOf9
  v9 := Try.zeroValue9
  t37 := Try.underlying106
  a37 := Try.isAgg106
  z37 := Try.sizeOf106
  v37 := Try.zeroValue106
  t70 := Try.underlying139
  a70 := Try.isAgg139
  z70 := Try.sizeOf139
  v70 := Try.zeroValue139
  t72 := Try.underlying141
  a72 := Try.isAgg141
  z72 := Try.sizeOf141
  v72 := Try.zeroValue141
  t127 := Try.underlying146
  a127 := Try.isAgg146
  z127 := Try.sizeOf146
  v127 := Try.zeroValue146 }
theorem extraSt : Builder.Extra Try.prog renSt := {
  sizeBuilder := by kernel_rfl
  liesBuilder := by kernel_rfl
  t5 := Try.underlying5
  a5 := Try.isAgg5
  z5 := Try.sizeOf5
  v5 := Try.zeroValue5
  infoByte := by kernel_rfl
  cellsByte := by kernel_rfl
  sizeByte := by kernel_rfl
  neB5 := by decide }
theorem writeString_any (B b : Nat) (bs : List Value) (s : ByteArray) (w : World) (h : Lib.IsBuilder 141 5 B b bs w) (hlen : bs.length + s.size ≤ 140737488355328) (hB : B ≤ w.heap.size) :
    Calls Try.prog 107 #[.pointer (some ⟨b, 0, none⟩), .string s] w fun e w' => e = .returned (.tuple #[.int .i64 s.size, .nilIface]) ∧ (Lib.BuilderAt 141 5 B b (.pointer (some ⟨b, 0, none⟩)) (bs ++ Lib.strCells s) w' ∧ Below B w w') :=
  Any.Builder_WriteString laysWr extraWr B b bs s w h hlen hB
theorem bString_any (B b : Nat) (l : List UInt8) (w : World) (h : Lib.IsBuilder 141 5 B b (Lib.byteCells l) w) (hB : B ≤ w.heap.size) :
    Calls Try.prog 108 #[.pointer (some ⟨b, 0, none⟩)] w fun e w' => e = .returned (.string ⟨l.toArray⟩) ∧ Below B w w' :=
  Any.Builder_String_any laysSt extraSt B b l w h hB




/-- n times a word. -/
def powL (U : List UInt8) : Nat → List UInt8
  | 0 => []
  | n + 1 => powL U n ++ U
theorem powL_len (U : List UInt8) (n : Nat) : (powL U n).length = n * U.length := by
  induction n with
  | zero => simp [powL]
  | succ n ih => rw [powL, List.length_append, ih, Nat.succ_mul]
theorem powL_nil (n : Nat) : powL [] n = [] := by
  induction n with
  | zero => rfl
  | succ n ih => rw [powL, ih]; rfl
theorem cells_str (U : List UInt8) : Lib.strCells (str U) = Lib.byteCells U := by simp [Lib.strCells, Lib.byteCells, str_list]

set_option maxHeartbeats 1000000 in
set_option maxRecDepth 100000 in
theorem power_do (k : Int) (U : List UInt8) (n : Nat) (w : World) (hc : chk k (str U) = 0) (h0 : U ≠ []) (hn : n ≤ 4096 / U.length) :
    Calls Try.prog 86 #[.int .i64 k, .string (str U), .int .i64 n] w fun e w' => e = .returned (.tuple #[.string (str (powL U n)), .int .i64 0]) ∧ Below w.heap.size w w' := by
  have HC : Hid (chk k (str U) = 0) := hc
  have hpos : 0 < U.length := List.length_pos_iff.2 h0
  have hmul : n * U.length ≤ 4096 := by
    have := Nat.mul_le_mul_right U.length hn
    have := Nat.div_mul_le_self 4096 U.length
    omega
  have he : (str U).toList.isEmpty = false := by rw [ByteArray.toList_eq, str_list]; simpa using h0
  have hq : (n : Int) ≤ 4096 / (U.length : Int) := by
    have e : (4096 : Int) / (U.length : Int) = ((4096 / U.length : Nat) : Int) := by simp
    rw [e]
    omega
  have HM : Hid (n * U.length ≤ 4096) := hmul
  have hsz := str_size U
  have hn4 : n ≤ 4096 := Nat.le_trans hn (Nat.div_le_self _ _)
  have hd0 : 0 ≤ (4096 : Int) / (U.length : Int) := Int.ediv_nonneg (by omega) (by omega)
  have hd1 : (4096 : Int) / (U.length : Int) ≤ 4096 := Int.ediv_le_self _ (by omega)
  have hq2 : decide ((4096 : Int) / (U.length : Int) < (n : Int)) = false := by rw [decide_eq_false_iff_not]; omega
  have hn0 : decide ((n : Int) < 0) = false := by rw [decide_eq_false_iff_not]; omega
  clear hc h0 hn hmul
  go_enter Try.func86, Try.ntmps86
  go_wp2_with fail
  refine (check_any _ _ _).mono ?_
  rintro e w1 ⟨rfl, b1⟩
  rw [HC.out]
  go_wp2_with fail
  go_loopw [26] (fun vi wr => ∃ i : Nat, vi = .int .i64 i ∧ i ≤ n ∧ Lib.IsBuilder 141 5 w1.heap.size w1.heap.size (Lib.byteCells (powL U i)) wr ∧ Below w1.heap.size w1 wr) (fun vi _ => n - (intOf vi).toNat)
  case atStart => exact ⟨0, rfl, Nat.zero_le _, Lib.fresh_isBuilder _ _ _, (Below.refl _ _).alloc (Nat.le_refl _) _⟩
  case round =>
    obtain ⟨i, rfl, hi, hI, hb⟩ := hrel
    have HI : Hid _ := hI
    clear hI
    by_cases hlt : i < n
    · go_wp2_with fail
      refine (writeString_any w1.heap.size w1.heap.size _ (str U) _ HI.out ?_ hb.size).mono ?_
      · rw [Lib.byteCells_length, powL_len, str_size]
        have h1 : i * U.length ≤ n * U.length := Nat.mul_le_mul_right _ (by omega)
        have h2 : U.length ≤ n * U.length := Nat.le_mul_of_pos_left _ (by omega)
        have := HM.out
        omega
      rintro e w2 ⟨rfl, h2, b2⟩
      rw [cells_str, ← Lib.byteCells_append] at h2
      have H2 : Hid (Lib.IsBuilder 141 5 w1.heap.size w1.heap.size (Lib.byteCells (powL U (i + 1))) w2) := .inr h2
      clear h2
      go_wp2_with fail
      go_roundw
      case rel => exact ⟨i + 1, by go_num, by omega, H2.out, hb.trans b2⟩
      case measure => simp [intOf]; omega
    · have hin : i = n := by omega
      subst hin
      go_wp2_with fail
      refine (bString_any w1.heap.size w1.heap.size (powL U i) _ HI.out hb.size).mono ?_
      rintro e w2 ⟨rfl, b2⟩
      go_wp2_with fail
      go_ret2
      exact ⟨rfl, go_on b1 (hb.trans b2)⟩

set_option maxHeartbeats 1000000 in
theorem power_err (k : Int) (U : List UInt8) (n : Int) (w : World) (hc : chk k (str U) ≠ 0) :
    Calls Try.prog 86 #[.int .i64 k, .string (str U), .int .i64 n] w fun e w' => e = .returned (.tuple #[.string ⟨#[]⟩, .int .i64 (chk k (str U))]) ∧ Below w.heap.size w w' := by
  have hg : (chk k (str U) != 0) = true := by simpa using hc
  clear hc
  go_enter Try.func86, Try.ntmps86
  go_wp2_with fail
  refine (check_any _ _ _).mono ?_
  rintro e w1 ⟨rfl, b1⟩
  go_wp2_with fail
  go_ret2
  exact ⟨rfl, b1⟩

/-- The error of Power where the word is one. -/
def powrE (U : List UInt8) (n : Int) : Int := if n < 0 then 1 else if U = [] then 0 else if 4096 / (U.length : Int) < n then 6 else 0

set_option maxHeartbeats 1000000 in
theorem power_none (k : Int) (U : List UInt8) (n : Int) (w : World) (hc : chk k (str U) = 0) (h : n < 0 ∨ U = [] ∨ 4096 / (U.length : Int) < n) :
    Calls Try.prog 86 #[.int .i64 k, .string (str U), .int .i64 n] w fun e w' => e = .returned (.tuple #[.string ⟨#[]⟩, .int .i64 (powrE U n)]) ∧ Below w.heap.size w w' := by
  have HC : Hid (chk k (str U) = 0) := hc
  clear hc
  by_cases hn : n < 0
  · have HE : Hid (powrE U n = 1) := by show powrE U n = 1; unfold powrE; rw [if_pos hn]
    clear h
    go_enter Try.func86, Try.ntmps86
    go_wp2_with fail
    refine (check_any _ _ _).mono ?_
    rintro e w1 ⟨rfl, b1⟩
    rw [HC.out]
    go_wp2_with fail
    go_ret2
    exact ⟨ret_tup rfl HE.out.symm, b1⟩
  by_cases h0 : U = []
  · have HE : Hid (powrE U n = 0) := by show powrE U n = 0; unfold powrE; rw [if_neg hn, if_pos h0]
    have he : (str U).toList.isEmpty = true := by rw [ByteArray.toList_eq, str_list, h0]; rfl
    clear h h0
    go_enter Try.func86, Try.ntmps86
    go_wp2_with fail
    refine (check_any _ _ _).mono ?_
    rintro e w1 ⟨rfl, b1⟩
    rw [HC.out]
    go_wp2_with fail
    go_ret2
    exact ⟨ret_tup rfl HE.out.symm, b1⟩
  have hq : 4096 / (U.length : Int) < n := by
    rcases h with h | h | h
    · omega
    · exact absurd h h0
    · exact h
  have HE : Hid (powrE U n = 6) := by show powrE U n = 6; unfold powrE; rw [if_neg hn, if_neg h0, if_pos hq]
  have he : (str U).toList.isEmpty = false := by rw [ByteArray.toList_eq, str_list]; simpa using h0
  have hpos : 0 < U.length := List.length_pos_iff.2 h0
  have hsz := str_size U
  have hd0 : 0 ≤ (4096 : Int) / (U.length : Int) := Int.ediv_nonneg (by omega) (by omega)
  have hd1 : (4096 : Int) / (U.length : Int) ≤ 4096 := Int.ediv_le_self _ (by omega)
  clear h h0
  go_enter Try.func86, Try.ntmps86
  go_wp2_with fail
  refine (check_any _ _ _).mono ?_
  rintro e w1 ⟨rfl, b1⟩
  rw [HC.out]
  go_wp2_with fail
  go_ret2
  exact ⟨ret_tup rfl HE.out.symm, b1⟩




def renRp : Go.Shelf.Ren := ⟨fun | 105 => 90 | 212 => 110 | 99 => 111 | 165 => 112 | 166 => 107 | 170 => 113 | 169 => 108 | 263 => 124 | 264 => 125 | 206 => 126 | 240 => 123 | 241 => 127 | 276 => 133 | 277 => 134 | n => n, fun | 0 => 0 | 3 => 3 | 4 => 4 | 5 => 5 | 9 => 9 | 20 => 20 | 37 => 106 | 46 => 147 | 51 => 158 | 53 => 161 | 70 => 139 | 72 => 141 | 75 => 143 | 76 => 144 | 80 => 108 | 109 => 148 | 127 => 146 | 146 => 159 | 148 => 162 | 164 => 167 | n => n, fun | n => n⟩
theorem laysRp : Go.Proofs.Lays.n105 Try.prog renRp := {
  mixed := by kernel_rfl
  f99 := Try.func111.trans (congrArg some (by kernel_rfl))
  f105 := Try.func90.trans (congrArg some (by kernel_rfl))
  f165 := Try.func112.trans (congrArg some (by kernel_rfl))
  f166 := Try.func107.trans (congrArg some (by kernel_rfl))
  f169 := Try.func108.trans (congrArg some (by kernel_rfl))
  f170 := Try.func113.trans (congrArg some (by kernel_rfl))
  f206 := Try.func126.trans (congrArg some (by kernel_rfl))
  f212 := Try.func110.trans (congrArg some (by kernel_rfl))
  f240 := Try.func123.trans (congrArg some (by kernel_rfl))
  f241 := Try.func127.trans (congrArg some (by kernel_rfl))
  f263 := Try.func124.trans (congrArg some (by kernel_rfl))
  f264 := Try.func125.trans (congrArg some (by kernel_rfl))
  f276 := Try.func133.trans (congrArg some (by kernel_rfl))
  f277 := Try.func134.trans (congrArg some (by kernel_rfl))
  t0 := Try.underlying0
  a0 := Try.isAgg0
  z0 := Try.sizeOf0
  v0 := Try.zeroValue0
  t3 := Try.underlying3
  a3 := Try.isAgg3
  z3 := Try.sizeOf3
  v3 := Try.zeroValue3
  t4 := Try.underlying4
  a4 := Try.isAgg4
  z4 := Try.sizeOf4
  v4 := Try.zeroValue4
  t5 := Try.underlying5
  a5 := Try.isAgg5
  z5 := Try.sizeOf5
  v5 := Try.zeroValue5
  t9 := Try.underlying9
  a9 := Try.isAgg9
  z9 := Try.sizeOf9
  v9 := Try.zeroValue9
  t20 := Try.underlying20
  a20 := Try.isAgg20
  z20 := Try.sizeOf20
  v20 := Try.zeroValue20
  t37 := Try.underlying106
  a37 := Try.isAgg106
  z37 := Try.sizeOf106
  v37 := Try.zeroValue106
  t46 := Try.underlying147
  a46 := Try.isAgg147
  z46 := Try.sizeOf147
  v46 := Try.zeroValue147
  t51 := Try.underlying158
  a51 := Try.isAgg158
  z51 := Try.sizeOf158
  v51 := Try.zeroValue158
  t53 := Try.underlying161
  a53 := Try.isAgg161
  z53 := Try.sizeOf161
  v53 := Try.zeroValue161
  t70 := Try.underlying139
  a70 := Try.isAgg139
  z70 := Try.sizeOf139
  v70 := Try.zeroValue139
  t72 := Try.underlying141
  a72 := Try.isAgg141
  z72 := Try.sizeOf141
  v72 := Try.zeroValue141
  t75 := Try.underlying143
  a75 := Try.isAgg143
  z75 := Try.sizeOf143
  v75 := Try.zeroValue143
  t76 := Try.underlying144
  a76 := Try.isAgg144
  z76 := Try.sizeOf144
  v76 := Try.zeroValue144
  t109 := Try.underlying148
  a109 := Try.isAgg148
  z109 := Try.sizeOf148
  v109 := Try.zeroValue148
  t127 := Try.underlying146
  a127 := Try.isAgg146
  z127 := Try.sizeOf146
  v127 := Try.zeroValue146
  t146 := Try.underlying159
  a146 := Try.isAgg159
  z146 := Try.sizeOf159
  v146 := Try.zeroValue159
  t148 := Try.underlying162
  a148 := Try.isAgg162
  z148 := Try.sizeOf162
  v148 := Try.zeroValue162
  t164 := Try.underlying167
  a164 := Try.isAgg167
  z164 := Try.sizeOf167
  v164 := Try.zeroValue167 }
theorem extraRp : Builder.Extra Try.prog renRp := {
  sizeBuilder := by kernel_rfl
  liesBuilder := by kernel_rfl
  t5 := Try.underlying5
  a5 := Try.isAgg5
  z5 := Try.sizeOf5
  v5 := Try.zeroValue5
  infoByte := by kernel_rfl
  cellsByte := by kernel_rfl
  sizeByte := by kernel_rfl
  neB5 := by decide }
theorem repeat_any (s : ByteArray) (c : Nat) (w : World) (hc : c ≤ 9223372036854775807) (hlen : s.size * c ≤ 140737488355328) :
    Calls Try.prog 90 #[.string s, .int .i64 c] w fun e w' => e = .returned (.string ⟨(Lib.repeatL s.data.toList c).toArray⟩) ∧ Below w.heap.size w w' := Any.strings_Repeat laysRp extraRp s c w hc hlen
theorem pow_comm (U : List UInt8) : ∀ n, U ++ powL U n = powL U n ++ U
  | 0 => by simp [powL]
  | n + 1 => by rw [powL, ← List.append_assoc, pow_comm U n]
theorem repeat_pow (U : List UInt8) : ∀ n, Lib.repeatL U n = powL U n
  | 0 => rfl
  | n + 1 => by
    have ih := repeat_pow U n
    rw [Lib.repeatL, ih, powL]
    exact pow_comm U n

end Go.Proofs.Ythhlamehbcidgaa
