/- The law's made: a transformation of n points out of any numbers. -/
import Derived.Test.YthglficjhgpegabAn
import Derived.Test.YthglficjhgpegabRl
namespace Go.Proofs.Ythglficjhgpegab
open Go Go.RowKit Go.Lib
set_option linter.unusedVariables false

/-- The numbers that made answers. -/
def mdf (n : Nat) (xs : List Int) (i : Nat) : Int := if i < xs.length then xs.getD i 0 % n else i
def mdL (n : Nat) (xs : List Int) : List Int := (List.range n).map (mdf n xs)
def mdP (n : Nat) (xs : List Int) (i : Nat) : List Int := (List.range i).map (mdf n xs)
theorem mdP_succ (n : Nat) (xs : List Int) (i : Nat) : mdP n xs (i + 1) = mdP n xs i ++ [mdf n xs i] := by simp [mdP, List.range_succ]
theorem mdP_len (n : Nat) (xs : List Int) (i : Nat) : (mdP n xs i).length = i := by simp [mdP]
theorem mdf_lt {n : Nat} (hn : 1 ≤ n) (xs : List Int) {i : Nat} (hi : i < n) : 0 ≤ mdf n xs i ∧ mdf n xs i < n := by
  unfold mdf
  split
  · exact ⟨Int.emod_nonneg _ (by omega), Int.emod_lt_of_pos _ (by omega)⟩
  · omega
theorem mdL_ok {n : Nat} (h1 : 1 ≤ n) (h2 : n ≤ 64) (xs : List Int) : okL (mdL n xs) := by
  have hl : (mdL n xs).length = n := mdP_len n xs n
  refine ⟨by omega, by omega, fun i hi => ?_⟩
  rw [hl] at hi ⊢
  have e : (mdL n xs).getD i 0 = mdf n xs i := by simp [mdL, hi]
  rw [e]
  exact mdf_lt h1 xs hi
theorem tmod_twice (x : Int) {n : Nat} (hn : 1 ≤ n) : (x.tmod n + n).tmod n = x % n := by
  have h1 := Int.tmod_lt_of_pos x (b := (n : Int)) (by omega)
  have h2 : -(n : Int) < x.tmod n := by
    have := Int.lt_tmod_of_pos x (b := (n : Int)) (by omega)
    exact this
  rw [Int.tmod_eq_emod_of_nonneg (by omega), Int.add_emod_right]
  rw [Int.tmod_eq_emod]
  split <;> simp
theorem mdP_all {n : Nat} (hn : 1 ≤ n) (h2 : n ≤ 64) (xs : List Int) : mkV (mdL n xs) = .tuple #[.agg (tC (toL (mdL n xs))), .int .i64 0] := by
  have h := mdL_ok hn h2 xs
  unfold mkV
  rw [if_pos ⟨h.1, h.2.1⟩, if_pos h]
  rfl

set_option maxHeartbeats 4000000 in
set_option maxRecDepth 100000 in
theorem made_any (n : Nat) (h1 : 1 ≤ n) (h2 : n ≤ 64) (v : Value) (xs : List Int) (hxs : ∀ x ∈ xs, -9223372036854775808 ≤ x ∧ x ≤ 9223372036854775807) (w : World) (hv : Reads w v xs) (hm : xs.length ≤ 9223372036854775806) :
    Calls Try.prog 9 #[.int .i64 n, v] w fun e w' => ∃ v', e = .returned v' ∧ w'.ownsRow w.heap.size 3 1 v' (mdL n xs).length (zC (mdL n xs)) ∧ Below w.heap.size w w' := by
  obtain ⟨i0, hi, hz0, hz1, hz2⟩ := info_parts Try.info_int
  obtain ⟨a, cap, rfl, hr⟩ := hv
  have HR : Hid (∀ i, i < xs.length → ∃ g o, a = some ⟨g, o, none⟩ ∧ g < w.heap.size ∧ w.cell? ⟨g, o + i, none⟩ = some (.int .i64 (xs.getD i 0))) := hr
  have HX : Hid (∀ x ∈ xs, -9223372036854775808 ≤ x ∧ x ≤ 9223372036854775807) := hxs
  clear hr hxs
  go_enter Try.func9, Try.ntmps9
  go_wp2_with fail
  go_loopw [5, 6, 7] (fun vl vi _ wr => ∃ i : Nat, i ≤ n ∧ vi = .int .i64 i ∧ wr.ownsRow w.heap.size 3 1 vl (mdP n xs i).length (zC (mdP n xs i)) ∧ Below w.heap.size w wr) (fun _ vi _ _ => n - (intOf vi).toNat)
  case atStart => exact ⟨0, Nat.zero_le _, rfl, by show World.ownsRow _ _ _ _ _ 0 []; exact World.ownsRow_nil _ _ _ _, Below.refl _ _⟩
  case round =>
    obtain ⟨i, hin, rfl, hown, hb⟩ := hrel
    rw [mdP_len] at hown
    obtain ⟨ga, gcap, rfl⟩ := own_shape hown
    by_cases hlt : i < n
    · have hiI : (i : Int) < n := by omega
      have hS := mdP_succ n xs i
      have HS : Hid (mdP n xs (i + 1) = mdP n xs i ++ [mdf n xs i]) := hS
      have hR := mdf_lt h1 xs hlt
      have hL := mdP_len n xs i
      obtain ⟨L, hLe⟩ : ∃ L, mdP n xs i = L := ⟨_, rfl⟩
      rw [hLe] at HS hown hL
      clear hS hLe
      have HL : Hid (L.length = i) := hL
      clear hL
      have HB : Hid (Below w.heap.size w wr) := hb
      have hsz := hb.size
      have HO : Hid (wr.ownsRow w.heap.size 3 1 (.slice ga i gcap) i (zC L)) := hown
      by_cases hx : i < xs.length
      · obtain ⟨g, o, rfl, hg, hcell⟩ := HR.out i hx
        have hcell2 : wr.cell? ⟨g, o + i, none⟩ = some (.int .i64 (xs.getD i 0)) := by rw [below_cell hb hg]; exact hcell
        have hbd : -9223372036854775808 ≤ xs.getD i 0 ∧ xs.getD i 0 ≤ 9223372036854775807 := HX.out _ (by simp [hx])
        have hmf : mdf n xs i = xs.getD i 0 % n := by unfold mdf; rw [if_pos hx]
        have htt := tmod_twice (xs.getD i 0) h1
        rw [hmf] at HS hR
        obtain ⟨x, hxe⟩ : ∃ x, xs.getD i 0 = x := ⟨_, rfl⟩
        rw [hxe] at hcell2 hbd htt HS hR
        have hxI : (i : Int) < xs.length := by omega
        have b1 := Int.tmod_lt_of_pos x (b := (n : Int)) (by omega)
        have b2 : -(n : Int) < x.tmod n := Int.lt_tmod_of_pos x (b := (n : Int)) (by omega)
        obtain ⟨y, hye⟩ : ∃ y, x.tmod n = y := ⟨_, rfl⟩
        obtain ⟨z, hze⟩ : ∃ z, x % n = z := ⟨_, rfl⟩
        rw [hye] at htt b1 b2
        rw [hze] at htt HS hR
        have hw1 : IntKind.i64.wrap y = y := IntWalk.i64_in _ (by omega)
        have hw2 : IntKind.i64.wrap (y + n) = y + n := IntWalk.i64_in _ (by omega)
        have hw3 : IntKind.i64.wrap z = z := IntWalk.i64_in _ (by omega)
        have hn0 : ((n : Int) == 0) = false := by rw [beq_eq_false_iff_ne]; omega
        have hn0' : ¬ (n : Int) = 0 := by omega
        clear hown hb hcell hmf hxe hze hbd HX
        go_wp2_with (at_builtin; refine wpList_append_own _ rfl _ _ 22 rfl w.heap.size 3 i0 (.int .i64 0) 1 8 Try.underlying22 hi hz0 hz1 hz2 rfl (by decide) _ _ _ rfl (HO.out.alloc _) ⟨wr.heap.size, 0, none⟩ 1 1 [.int .i64 z] rfl rfl (cell_one_new _ _ _) (by intro u hu; simp at hu; subst hu; rfl) (by unfold maxLen; omega) (by omega) (by simp; omega) ?_; intro v' w4 hown' hgrow _; have HR4 : Hid (w4.ownsRow w.heap.size 3 1 v' (mdP n xs (i + 1)).length (zC (mdP n xs (i + 1)))) := (by show World.ownsRow _ _ _ _ _ _ _; rw [mdP_len, HS.out, zC_append]; exact hown'); have HB4 : Hid (Below w.heap.size w w4) := (HB.out.alloc HB.out.size _).grown hgrow (by simp; omega) (fun g hg => (HO.out.lt g hg).1); clear hown' hgrow)
        go_roundw
        case rel => exact ⟨i + 1, by omega, by go_num, HR4.out, HB4.out⟩
        case measure => simp [intOf]; omega
      · have hxI : ¬ (i : Int) < xs.length := by omega
        have hmf : mdf n xs i = (i : Int) := by unfold mdf; rw [if_neg hx]
        rw [hmf] at HS
        clear hown hb hmf hR
        go_wp2_with (at_builtin; refine wpList_append_own _ rfl _ _ 22 rfl w.heap.size 3 i0 (.int .i64 0) 1 8 Try.underlying22 hi hz0 hz1 hz2 rfl (by decide) _ _ _ rfl (HO.out.alloc _) ⟨wr.heap.size, 0, none⟩ 1 1 [.int .i64 (i : Int)] rfl rfl (cell_one_new _ _ _) (by intro u hu; simp at hu; subst hu; rfl) (by unfold maxLen; omega) (by omega) (by simp; omega) ?_; intro v' w4 hown' hgrow _; have HR4 : Hid (w4.ownsRow w.heap.size 3 1 v' (mdP n xs (i + 1)).length (zC (mdP n xs (i + 1)))) := (by show World.ownsRow _ _ _ _ _ _ _; rw [mdP_len, HS.out, zC_append]; exact hown'); have HB4 : Hid (Below w.heap.size w w4) := (HB.out.alloc HB.out.size _).grown hgrow (by simp; omega) (fun g hg => (HO.out.lt g hg).1); clear hown' hgrow)
        go_roundw
        case rel => exact ⟨i + 1, by omega, by go_num, HR4.out, HB4.out⟩
        case measure => simp [intOf]; omega
    · have hiI : ¬ (i : Int) < n := by omega
      have HE : Hid (i = n) := by show i = n; omega
      have HO : Hid (wr.ownsRow w.heap.size 3 1 (.slice ga i gcap) i (zC (mdP n xs i))) := hown
      have HB : Hid (Below w.heap.size w wr) := hb
      clear hown hb
      go_wp2_with fail
      go_ret
      refine ⟨_, rfl, ?_, HB.out⟩
      have h := HO.out
      rw [HE.out] at h
      have e : (mdL n xs).length = n := mdP_len n xs n
      rw [e]
      have e2 : (Value.slice ga i gcap) = .slice ga n gcap := by rw [HE.out]
      show World.ownsRow _ _ _ _ (Value.slice ga i gcap) _ _
      rw [e2]
      exact h
end Go.Proofs.Ythglficjhgpegab
