/- Contract of word.Nth: ErrLetters; ErrSize where the word has more than 4096 letters; else the word with the number n. No old memory is written. -/
import Derived.Test.YtocdifclkopbcaaRev
import Derived.Test.YtocdifclkopbcaaMth
namespace Go.Proofs.Ytocdifclkopbcaa
open Go.RowKit Go.Lib

theorem Try.info_u8 : (Try.prog.info? 5).map (fun i => (i.zero, i.size, i.bytes)) = some (some (.int .u8 0), 1, 1) := by kernel_rfl

theorem slReverse_any (base : Nat) (v : Value) (l : List UInt8) (w : World) (hown : w.ownsRow base 5 1 v l.length (byteCells l)) (hl : l.length ≤ 9223372036854775807) :
    Calls Try.prog 38 #[v] w fun e w' => e = .returned (.tuple #[]) ∧ w'.ownsRow base 5 1 v l.length (byteCells l.reverse) ∧ Below base w w' := by
  obtain ⟨h0, h⟩ := hown
  rcases h with ⟨rfl, hn⟩ | ⟨g, cap, cur, rfl, hb, h1, h2, h3, h4, h5⟩
  · have : l = [] := List.eq_nil_of_length_eq_zero hn
    subst this
    refine (slReverse_none none 0 w).mono ?_
    rintro e w1 ⟨rfl, rfl⟩
    exact ⟨rfl, World.ownsRow_nil _ _ _ _, Below.refl _ _⟩
  · exact slReverse_own base g cap l w ⟨h0, .inr ⟨g, cap, cur, rfl, hb, h1, h2, h3, h4, h5⟩⟩ hl base hb

/-- string(b) of an owned row of bytes. -/
theorem run_string_own (base : Nat) (v : Value) (l : List UInt8) (w : World) (hown : w.ownsRow base 5 1 v l.length (byteCells l)) :
    (convert 65 9 v).run Try.prog w = .ok (.string ⟨l.toArray⟩) w := by
  obtain ⟨h0, h⟩ := hown
  rcases h with ⟨rfl, hn⟩ | ⟨g, cap, cur, rfl, hb, h1, h2, h3, h4, h5⟩
  · have : l = [] := List.eq_nil_of_length_eq_zero hn
    subst this
    rw [run_convert_bytes_string w _ _ 5 none 0 0 Try.underlying65 Try.underlying5 Try.underlying9]
    rfl
  · refine run_convert_bytes_back w _ _ 5 ⟨g, 0, none⟩ cap l Try.underlying65 Try.underlying5 Try.underlying9 ?_
    intro j hj
    have hown : w.ownsRow base 5 1 (.slice (some ⟨g, 0, none⟩) l.length cap) l.length (byteCells l) := ⟨h0, .inr ⟨g, cap, cur, rfl, hb, h1, h2, h3, h4, h5⟩⟩
    exact hown.cells (g := g) rfl j _ (byteCells_get l j l[j] (by simp))

theorem own_shape {w : World} {base : Nat} {e : TypeId} {size n : Nat} {v : Value} {xs : List Value} (h : w.ownsRow base e size v n xs) : ∃ a cap, v = .slice a n cap := by
  obtain ⟨_, h⟩ := h
  rcases h with ⟨rfl, hn⟩ | ⟨g, cap, cur, rfl, _⟩
  · exact ⟨none, 0, by rw [hn]⟩
  · exact ⟨_, _, rfl⟩

theorem digit_val (k q : Nat) (h1 : 1 ≤ k) (h8 : k ≤ 8) : (97 + (q : Int) % k) = ((UInt8.ofNat (97 + q % k)).toNat : Int) := by
  have : q % k < k := Nat.mod_lt _ (by omega)
  have e : (UInt8.ofNat (97 + q % k)).toNat = 97 + q % k := by
    rw [UInt8.toNat_ofNat']
    omega
  rw [e]
  omega
theorem own_snoc {w : World} {base n : Nat} {e : TypeId} {v : Value} {l : List UInt8} {c : UInt8} (h : w.ownsRow base e 1 v n (byteCells l ++ [Value.int .u8 (c.toNat : Int)])) : w.ownsRow base e 1 v n (byteCells (l ++ [c])) := by
  rw [byteCells_append]
  exact h

set_option maxHeartbeats 1000000 in
set_option maxRecDepth 100000 in
theorem nth_any (k n : Nat) (w : World) (h1 : 1 ≤ k) (h8 : k ≤ 8) (hn : n < 18446744073709551616) :
    Calls Try.prog 16 #[.int .i64 k, .int .u64 n] w fun e w' =>
      (((nthB k n).length ≤ 4096 ∧ e = .returned (.tuple #[.string ⟨(nthW k n).toArray⟩, .int .i64 0])) ∨ (4096 < (nthB k n).length ∧ e = .returned (.tuple #[.string ⟨#[]⟩, .int .i64 6]))) ∧ Below w.heap.size w w' := by
  have hck : chk (k : Int) ⟨#[]⟩ = 0 := chk_ok _ _ (by omega) (by omega) (fun i hi => by simp [ByteArray.size] at hi)
  have HC : Hid (chk (k : Int) ⟨#[]⟩ = 0) := hck
  clear hck
  obtain ⟨i0, hi, hz0, hz1, hz2⟩ := info_parts Try.info_u8
  go_enter Try.func16, Try.ntmps16
  go_wp2_with fail
  refine (check_any _ _ _).mono ?_
  rintro e w1 ⟨rfl, b1⟩
  rw [HC.out]
  go_wp2_with fail
  go_loopw [1, 7] (fun s v wr => ∃ (m : Nat) (l : List UInt8), s = .int .u64 m ∧ m ≤ n ∧ l.length ≤ 4096 ∧ nthB k n = l ++ nthB k m ∧ wr.ownsRow w.heap.size 5 1 v l.length (byteCells l) ∧ Below w.heap.size w wr)
    (fun s _ _ => (intOf s).toNat)
  case atStart => exact ⟨n, [], rfl, Nat.le_refl _, by simp, by simp, World.ownsRow_nil _ _ _ _, b1⟩
  case round =>
    obtain ⟨m, l, rfl, hm, hl, heq, hown, hb⟩ := hrel
    obtain ⟨a, cap, rfl⟩ := own_shape hown
    by_cases hm0 : 0 < m
    · obtain ⟨q, rfl⟩ : ∃ q, m = q + 1 := ⟨m - 1, by omega⟩
      rw [nthB_succ] at heq
      have HE : Hid _ := heq
      clear heq
      have hq : q ≤ 18446744073709551614 := by omega
      by_cases h4 : l.length = 4096
      · have h4b : ((l.length : Int) == 4096) = true := by rw [beq_iff_eq]; omega
        go_wp2
        go_ret2
        have he := HE.out
        refine ⟨.inr ⟨by rw [he]; simp; omega, rfl⟩, hb⟩
      · have h4b : ((l.length : Int) == 4096) = false := by rw [beq_eq_false_iff_ne]; omega
        have hmod : q % k < k := Nat.mod_lt _ (by omega)
        have hd := digit_val k q (by omega) (by omega)
        have HD : Hid _ := hd
        clear hd
        go_wp2_with (at_builtin; refine wpList_append_own _ rfl _ _ 65 rfl w.heap.size 5 i0 (.int .u8 0) 1 1 Try.underlying65 hi hz0 hz1 hz2 rfl (by decide) _ _ _ rfl (hown.alloc _) ⟨wr.heap.size, 0, none⟩ 1 1 [.int .u8 (97 + (q : Int) % k)] rfl rfl ?c1 ?c2 ?c3 ?c4 ?c5 ?_)
        case c1 => exact cell_one_new _ _ _
        case c2 => intro u hu; simp at hu; subst hu; rfl
        case c3 => unfold maxLen; omega
        case c4 => omega
        case c5 => have := hb.size; simp; omega
        intro v' w2 hown' hgrow _
        rw [HD.out] at hown'
        have R := own_snoc hown' 
        have hb2 : Below w.heap.size w w2 := (hb.alloc hb.size _).grown hgrow (by have := hb.size; simp; omega) (fun g hg => (hown.lt g hg).1)
        clear hown' hgrow hown
        have hdiv : q / k ≤ q := Nat.div_le_self q k
        have hd0 : 0 ≤ (q : Int) / (k : Int) := Int.ediv_nonneg (by omega) (by omega)
        have hd1 : (q : Int) / (k : Int) ≤ 18446744073709551615 := Int.le_trans (Int.ediv_le_self _ (by omega)) (by omega)
        go_wp2
        go_roundw
        case rel => exact ⟨q / k, l ++ [UInt8.ofNat (97 + q % k)], by go_num, by omega, by simp; omega, by rw [HE.out]; simp, by simpa using R, hb2⟩
        case measure => simp [intOf]; omega
    · have hz : m = 0 := by omega
      subst hz
      have HE : Hid (nthB k n = l ++ nthB k 0) := heq
      clear heq
      go_wp2_with fail
      refine (slReverse_any w.heap.size _ l _ hown (by omega)).mono ?_
      rintro e w2 ⟨rfl, hown2, hb2⟩
      have hst := run_string_own w.heap.size _ l.reverse w2 (by simpa using hown2)
      go_wp2_with fail
      go_ret2
      refine ⟨.inl ?_, hb.trans hb2⟩
      have he := HE.out
      rw [nthB_zero, List.append_nil] at he
      exact ⟨by rw [he]; exact hl, by rw [nthW, he]; rfl⟩

end Go.Proofs.Ytocdifclkopbcaa
