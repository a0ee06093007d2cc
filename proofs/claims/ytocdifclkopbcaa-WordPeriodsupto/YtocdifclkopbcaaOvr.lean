/- Contracts of the laws' letters and over, of word.Reverse, and of the document's Turned and Reverse. No old memory is written. -/
import Derived.Test.YtocdifclkopbcaaKno
namespace Go.Proofs.Ytocdifclkopbcaa
open Go.RowKit Go.Lib

theorem ret_str {a b : List UInt8} (h : a = b) : Ending.returned (.string ⟨a.toArray⟩) = .returned (.string ⟨b.toArray⟩) := by rw [h]
/-- What letters answers. -/
def lts (k : Int) : Nat := (1 + k.tmod 8 % 8).toNat
theorem lts_range (k : Int) : 1 ≤ lts k ∧ lts k ≤ 8 := by unfold lts; omega

set_option maxHeartbeats 400000 in
theorem lettersL_any (k : Int) (w : World) :
    Calls Try.prog 31 #[.int .i64 k] w fun e w' => e = .returned (.int .i64 (lts k)) ∧ w' = w := by
  have h2 := Int.lt_tmod_of_pos k (b := 8) (by omega)
  have h3 := Int.tmod_lt_of_pos k (b := 8) (by omega)
  go_enter Try.func31, Try.ntmps31
  go_wp2
  go_ret
  exact ⟨ret_int (by unfold lts; omega), rfl⟩

/-- What over answers: each byte turned into one of the first k letters. -/
def ovr (k : Nat) (l : List UInt8) : List UInt8 := l.map fun c => UInt8.ofNat (97 + c.toNat % k)
theorem ovr_length (k : Nat) (l : List UInt8) : (ovr k l).length = l.length := by simp [ovr]
theorem ovr_snoc (k : Nat) (s : ByteArray) (i : Nat) (h : i < s.size) : ovr k (s.data.toList.take (i + 1)) = ovr k (s.data.toList.take i) ++ [UInt8.ofNat (97 + s[i].toNat % k)] := by
  rw [List.take_succ_eq_append_getElem (by simpa using h), ovr, List.map_append]
  rfl

set_option maxHeartbeats 1000000 in
set_option maxRecDepth 100000 in
theorem over_any (k : Nat) (s : ByteArray) (w : World) (h1 : 1 ≤ k) (h8 : k ≤ 8) (hs : s.size ≤ 140737488355328) :
    Calls Try.prog 32 #[.int .i64 k, .string s] w fun e w' => e = .returned (.string ⟨(ovr k s.data.toList).toArray⟩) ∧ Below w.heap.size w w' := by
  obtain ⟨i0, hi, hz0, hz1, hz2⟩ := info_parts Try.info_u8
  go_enter Try.func32, Try.ntmps32
  go_wp2_with fail
  go_loopw [5, 6] (fun v vi wr => ∃ (i : Nat), vi = .int .i64 i ∧ i ≤ s.size ∧ wr.ownsRow w.heap.size 5 1 v (ovr k (s.data.toList.take i)).length (byteCells (ovr k (s.data.toList.take i))) ∧ Below w.heap.size w wr) (fun _ vi _ => s.size - (intOf vi).toNat)
  case atStart => exact ⟨0, rfl, Nat.zero_le _, by show World.ownsRow _ _ _ _ _ 0 []; exact World.ownsRow_nil _ _ _ _, Below.refl _ _⟩
  case round =>
    obtain ⟨i, rfl, hk, hown, hb⟩ := hrel
    obtain ⟨a, cap, rfl⟩ := own_shape hown
    by_cases hlt : i < s.size
    · have hsn := ovr_snoc k s i hlt
      have HS : Hid _ := hsn
      clear hsn
      have hc : s[i].toNat < 256 := s[i].toNat_lt
      have hlen : (ovr k (s.data.toList.take i)).length = i := by rw [ovr_length, List.length_take, len_eq]; omega
      have HL : Hid _ := hlen
      clear hlen
      have hd := digit_val k s[i].toNat (by omega) (by omega)
      have HD : Hid _ := hd
      clear hd
      have hm0 : 0 ≤ (s[i].toNat : Int) % (k : Int) := Int.emod_nonneg _ (by omega)
      have hm1 : (s[i].toNat : Int) % (k : Int) < k := Int.emod_lt_of_pos _ (by omega)
      go_wp2_with (at_builtin; refine wpList_append_own _ rfl _ _ 65 rfl w.heap.size 5 i0 (.int .u8 0) 1 1 Try.underlying65 hi hz0 hz1 hz2 rfl (by decide) _ _ _ rfl (hown.alloc _) ⟨wr.heap.size, 0, none⟩ 1 1 [.int .u8 (97 + (s[i].toNat : Int) % k)] rfl rfl ?c1 ?c2 ?c3 ?c4 ?c5 ?_)
      case c1 => exact cell_one_new _ _ _
      case c2 => intro u hu; simp at hu; subst hu; rfl
      case c3 => rw [HL.out]; unfold maxLen; omega
      case c4 => rw [HL.out]; omega
      case c5 => have := hb.size; simp; omega
      intro v' w2 hown' hgrow _
      rw [HD.out] at hown'
      have R := own_snoc hown'
      have R2 : w2.ownsRow w.heap.size 5 1 v' (ovr k (s.data.toList.take (i + 1))).length (byteCells (ovr k (s.data.toList.take (i + 1)))) := by
        rw [HS.out, List.length_append]
        exact R
      have hb2 : Below w.heap.size w w2 := (hb.alloc hb.size _).grown hgrow (by have := hb.size; simp; omega) (fun g hg => (hown.lt g hg).1)
      clear hown' hgrow hown R
      go_wp2
      go_roundw
      case rel => exact ⟨i + 1, by go_num, by omega, R2, hb2⟩
      case measure => simp [intOf]; omega
    · have hst := run_string_own w.heap.size _ _ wr hown
      have he : s.data.toList.take i = s.data.toList := List.take_of_length_le (by rw [len_eq]; omega)
      have HE : Hid _ := he
      clear he
      go_wp2
      go_ret
      exact ⟨ret_str (by rw [HE.out]), hb⟩

/-- The row of Reverse when i letters are laid. -/
def layTo (l : List UInt8) (i : Nat) : List UInt8 := (List.range l.length).map fun t => if l.length ≤ t + i then l.getD (l.length - 1 - t) 0 else 0
theorem layTo_length (l : List UInt8) (i : Nat) : (layTo l i).length = l.length := by simp [layTo]
theorem layTo_get (l : List UInt8) (i t : Nat) (h : t < l.length) : (layTo l i)[t]? = some (if l.length ≤ t + i then l.getD (l.length - 1 - t) 0 else 0) := by simp [layTo, h]
theorem layTo_zero (l : List UInt8) : layTo l 0 = List.replicate l.length 0 := by
  apply List.ext_getElem?
  intro t
  by_cases h : t < l.length
  · rw [layTo_get l 0 t h, if_neg (by omega), List.getElem?_replicate, if_pos h]
  · rw [List.getElem?_eq_none (by rw [layTo_length]; omega), List.getElem?_eq_none (by simp; omega)]
theorem layTo_end (l : List UInt8) : layTo l l.length = l.reverse := by
  apply List.ext_getElem?
  intro t
  by_cases h : t < l.length
  · rw [layTo_get l _ t h, if_pos (by omega), List.getElem?_reverse h]
    have : l.length - 1 - t < l.length := by omega
    simp [this]
  · rw [List.getElem?_eq_none (by rw [layTo_length]; omega), List.getElem?_eq_none (by simp; omega)]
theorem layTo_step (l : List UInt8) (i : Nat) (h : i < l.length) : (layTo l i).set (l.length - 1 - i) (l.getD i 0) = layTo l (i + 1) := by
  apply List.ext_getElem?
  intro t
  by_cases ht : t < l.length
  · rw [List.getElem?_set, layTo_get l (i + 1) t ht, layTo_length]
    by_cases e : l.length - 1 - i = t
    · rw [if_pos e, if_pos (by omega), if_pos (by omega)]
      have : l.length - 1 - t = i := by omega
      rw [this]
    · rw [if_neg e, layTo_get l i t ht]
      by_cases g : l.length ≤ t + i
      · rw [if_pos g, if_pos (by omega)]
      · rw [if_neg g, if_neg (by omega)]
  · rw [List.getElem?_eq_none (by simp [layTo_length]; omega), List.getElem?_eq_none (by rw [layTo_length]; omega)]
/-- What Reverse answers. -/
def revA (k : Int) (s : ByteArray) : List UInt8 := if chk k s = 0 then s.data.toList.reverse else []

theorem own_laid {wr : World} {base g cap : Nat} {e : TypeId} (s : ByteArray) {i : Nat} (hown : wr.ownsRow base e 1 (.slice (some ⟨g, 0, none⟩) s.size cap) s.size (byteCells (layTo s.data.toList i))) (h : i < s.size) :
    (wr.setCell ⟨g, s.size - 1 - i, none⟩ (.int .u8 (s[i].toNat : Int))).ownsRow base e 1 (.slice (some ⟨g, 0, none⟩) s.size cap) s.size (byteCells (layTo s.data.toList (i + 1))) := by
  have r := (hown.stored (s.size - 1 - i) (.int .u8 (s[i].toNat : Int))).1
  rw [byteCells_set] at r
  have st := layTo_step s.data.toList i (by rw [len_eq]; exact h)
  rw [len_eq] at st
  rw [← st, ← show s[i] = s.data.toList.getD i 0 from at_eq s i h]
  exact r
theorem ret_st2 {k : IntKind} {a b : List UInt8} {x y : Int} (h : a = b) (g : x = y) : Ending.returned (.tuple #[.string ⟨a.toArray⟩, .int k x]) = .returned (.tuple #[.string ⟨b.toArray⟩, .int k y]) := by rw [h, g]

set_option maxHeartbeats 1000000 in
set_option maxRecDepth 100000 in
theorem reverse_any (k : Int) (s : ByteArray) (w : World) (hs : s.size ≤ 281474976710656) :
    Calls Try.prog 22 #[.int .i64 k, .string s] w fun e w' => e = .returned (.tuple #[.string ⟨(revA k s).toArray⟩, .int .i64 (chk k s)]) ∧ Below w.heap.size w w' := by
  by_cases h : chk k s = 0
  · have HP : Hid (revA k s = s.data.toList.reverse) := by show revA k s = _; unfold revA; rw [if_pos h]
    have HH : Hid (chk k s = 0) := h
    clear h
    obtain ⟨i0, hi, hz0, hz1, hz2⟩ := info_parts Try.info_u8
    have hle := len_eq s
    have HLE : Hid _ := hle
    clear hle
    go_enter Try.func22, Try.ntmps22
    go_wp2_with fail
    refine (check_any k s _).mono ?_
    rintro e w1 ⟨rfl, b1⟩
    rw [HH.out]
    go_wp2_with (at_make; refine wpList_make_full _ rfl _ _ 65 rfl w1.heap.size 5 i0 (.int .u8 0) 1 Try.underlying65 hi hz0 hz1 .i64 .i64 _ _ s.size rfl rfl ?d1 ?d2 ?d3 ?d4 ?d5 ?_)
    case d1 => omega
    case d2 => omega
    case d3 => rw [hz2]; omega
    case d4 => unfold maxLen; omega
    case d5 => exact Nat.le_refl _
    intro w2 hown hgrow
    have h0 : (madeCells #[Value.int .u8 0] s.size).toList = byteCells (layTo s.data.toList 0) := by
      rw [layTo_zero, HLE.out, toList_madeCells_one]
      simp [byteCells]
    rw [h0] at hown
    have hb : Below w1.heap.size w1 w2 := (Below.refl _ _).grown hgrow (Nat.le_refl _) (by simp)
    clear hgrow h0
    go_wp2_with fail
    go_loopw [20] (fun vk wr => ∃ (i : Nat), vk = .int .i64 i ∧ i ≤ s.size ∧ wr.ownsRow w1.heap.size 5 1 (.slice (some ⟨w1.heap.size, 0, none⟩) s.size s.size) s.size (byteCells (layTo s.data.toList i)) ∧ Below w1.heap.size w1 wr) (fun vk _ => s.size - (intOf vk).toNat)
    case atStart => exact ⟨0, rfl, Nat.zero_le _, hown, hb⟩
    case round =>
      obtain ⟨i, rfl, hi, hown, hb⟩ := hrel
      by_cases hlt : i < s.size
      · have hc := hown.cellAt (s.size - 1 - i) (by omega)
        have hf := hown.frozenAt (s.size - 1 - i)
        have R := own_laid s hown hlt
        rw [byteCells_get _ _ _ (layTo_get s.data.toList i (s.size - 1 - i) (by rw [HLE.out]; omega))] at hc
        obtain ⟨j, hj⟩ : ∃ j, s.size - 1 - i = j := ⟨_, rfl⟩
        rw [hj] at hc hf R
        generalize (if s.data.toList.length ≤ j + i then s.data.toList.getD (s.data.toList.length - 1 - j) 0 else 0) = z at hc
        have HR : Hid _ := R
        have ej : ((s.size : Int) - 1 - i) = (j : Int) := by omega
        have hj2 : j < s.size := by omega
        clear R hj
        go_wp2_with fail
        go_roundw
        case rel => exact ⟨i + 1, by go_num, by omega, HR.out, hb.setCell (p := ⟨w1.heap.size, j, none⟩) (Nat.le_refl _) _⟩
        case measure => simp [intOf]; omega
      · have : i = s.size := by omega
        subst this
        have he : layTo s.data.toList s.size = s.data.toList.reverse := by
          have := layTo_end s.data.toList
          rw [len_eq] at this
          exact this
        rw [he] at hown
        have hown3 : wr.ownsRow w1.heap.size 5 1 (.slice (some ⟨w1.heap.size, 0, none⟩) s.size s.size) s.data.toList.reverse.length (byteCells s.data.toList.reverse) := by
          rw [List.length_reverse, len_eq]
          exact hown
        have hst := run_string_own w1.heap.size _ _ wr hown3
        clear hown3 hown
        have HE : Hid _ := he
        clear he
        go_wp2
        go_ret2
        exact ⟨ret_st2 HP.out.symm HH.out.symm, b1.trans (hb.mono b1.size)⟩
  · have HP : Hid (revA k s = []) := by show revA k s = []; unfold revA; rw [if_neg h]
    have hg : (chk k s != 0) = true := by simpa using h
    clear h
    go_enter Try.func22, Try.ntmps22
    go_wp2_with fail
    refine (check_any k s _).mono ?_
    rintro e w1 ⟨rfl, b1⟩
    go_wp2_with fail
    go_ret2
    exact ⟨by rw [HP.out]; rfl, b1⟩

/-- The letters from the place m on, from behind. -/
def rdrop (s : ByteArray) (m : Nat) : List UInt8 := (s.data.toList.drop m).reverse
theorem rdrop_len (s : ByteArray) (m : Nat) : (rdrop s m).length = s.size - m := by rw [rdrop, List.length_reverse, List.length_drop, len_eq]
theorem rdrop_end (s : ByteArray) : rdrop s s.size = [] := by
  unfold rdrop
  rw [List.drop_eq_nil_of_le (by rw [len_eq]; exact Nat.le_refl _)]
  rfl
theorem rev_drop (s : ByteArray) (q : Nat) (h : q < s.size) : (rdrop s q) = (rdrop s (q + 1)) ++ [s[q]] := by
  unfold rdrop
  have h' : q < s.data.toList.length := by rw [len_eq]; exact h
  rw [List.drop_eq_getElem_cons h', List.reverse_cons]
  rfl

set_option maxHeartbeats 1000000 in
set_option maxRecDepth 100000 in
theorem turned_any (s : ByteArray) (w : World) (hs : s.size ≤ 140737488355328) :
    Calls Try.prog 43 #[.string s] w fun e w' => e = .returned (.string ⟨(s.data.toList.reverse).toArray⟩) ∧ Below w.heap.size w w' := by
  obtain ⟨i0, hi, hz0, hz1, hz2⟩ := info_parts Try.info_u8
  go_enter Try.func43, Try.ntmps43
  go_wp2_with fail
  go_loopw [3, 4] (fun v vi wr => ∃ (m : Nat), vi = .int .i64 ((m : Int) - 1) ∧ m ≤ s.size ∧ wr.ownsRow w.heap.size 5 1 v (rdrop s m).length (byteCells (rdrop s m)) ∧ Below w.heap.size w wr) (fun _ vi _ => (intOf vi + 1).toNat)
  case atStart => exact ⟨s.size, rfl, Nat.le_refl _, by rw [rdrop_end]; exact World.ownsRow_nil _ _ _ _, Below.refl _ _⟩
  case round =>
    obtain ⟨m, rfl, hk, hown, hb⟩ := hrel
    obtain ⟨a, cap, rfl⟩ := own_shape hown
    by_cases hlt : 0 < m
    · obtain ⟨q, rfl⟩ : ∃ q, m = q + 1 := ⟨m - 1, by omega⟩
      have eq : (((q + 1 : Nat) : Int) - 1) = (q : Int) := by omega
      rw [eq]
      clear eq
      have HS : Hid _ := rev_drop s q (by omega)
      have hlen : (rdrop s (q + 1)).length = s.size - (q + 1) := rdrop_len s (q + 1)
      have HL : Hid _ := hlen
      clear hlen
      have hq : q < s.size := by omega
      go_wp2_with (at_builtin; refine wpList_append_own _ rfl _ _ 65 rfl w.heap.size 5 i0 (.int .u8 0) 1 1 Try.underlying65 hi hz0 hz1 hz2 rfl (by decide) _ _ _ rfl (hown.alloc _) ⟨wr.heap.size, 0, none⟩ 1 1 [.int .u8 (s[q].toNat : Int)] rfl rfl ?c1 ?c2 ?c3 ?c4 ?c5 ?_)
      case c1 => exact cell_one_new _ _ _
      case c2 => intro u hu; simp at hu; subst hu; rfl
      case c3 => rw [HL.out]; unfold maxLen; omega
      case c4 => rw [HL.out]; omega
      case c5 => have := hb.size; simp; omega
      intro v' w2 hown' hgrow _
      have R := own_snoc hown'
      have R2 : w2.ownsRow w.heap.size 5 1 v' (rdrop s q).length (byteCells (rdrop s q)) := by
        rw [HS.out, List.length_append]
        exact R
      have hb2 : Below w.heap.size w w2 := (hb.alloc hb.size _).grown hgrow (by have := hb.size; simp; omega) (fun g hg => (hown.lt g hg).1)
      clear hown' hgrow hown R
      go_wp2
      go_roundw
      case rel => exact ⟨q, rfl, by omega, R2, hb2⟩
      case measure => simp [intOf]
    · have : m = 0 := by omega
      subst this
      have hst := run_string_own w.heap.size _ _ wr hown
      go_wp2
      go_ret
      exact ⟨ret_str (by rw [rdrop, List.drop_zero]), hb⟩

set_option maxHeartbeats 1000000 in
theorem rreverse_any (k : Int) (s : ByteArray) (w : World) (hs : s.size ≤ 140737488355328) :
    Calls Try.prog 24 #[.int .i64 k, .string s] w fun e w' => e = .returned (.tuple #[.string ⟨(revA k s).toArray⟩, .int .i64 (chk k s)]) ∧ Below w.heap.size w w' := by
  have hs2 : s.size ≤ maxLen := by unfold maxLen; omega
  by_cases h : chk k s = 0
  · have HP : Hid (revA k s = s.data.toList.reverse) := by show revA k s = _; unfold revA; rw [if_pos h]
    have HH : Hid (chk k s = 0) := h
    clear h
    go_enter Try.func24, Try.ntmps24
    go_wp2_with fail
    refine (rcheck_any k s _ hs2).mono ?_
    rintro e w1 ⟨rfl, b1⟩
    rw [HH.out]
    go_wp2_with fail
    refine (turned_any s _ hs).mono ?_
    rintro e w2 ⟨rfl, b2⟩
    go_wp2_with fail
    go_ret2
    exact ⟨ret_st2 HP.out.symm HH.out.symm, b1.trans (b2.mono b1.size)⟩
  · have HP : Hid (revA k s = []) := by show revA k s = []; unfold revA; rw [if_neg h]
    have hg : (chk k s != 0) = true := by simpa using h
    clear h
    go_enter Try.func24, Try.ntmps24
    go_wp2_with fail
    refine (rcheck_any k s _ hs2).mono ?_
    rintro e w1 ⟨rfl, b1⟩
    go_wp2_with fail
    go_ret2
    exact ⟨by rw [HP.out]; rfl, b1⟩

end Go.Proofs.Ytocdifclkopbcaa
