/- Lists that are lent and must stay; lists that are alike: the laws' LentInts, StayInts, SameInts, bools. -/
import Derived.Test.YtabkhoiccjkghaaJq
import Derived.Laws.AppendOwnNone
import Derived.Deep.QuietTactic
namespace Go.Proofs.Ytabkhoiccjkghaa
open Go Go.RowKit Go.Lib
set_option linter.unusedVariables false

theorem two_new (w : World) (a b : Value) (t : TypeId) : ∀ j u, [a, b][j]? = some u → (w.alloc (.cells #[a, b] t)).cell? ((⟨w.heap.size, 0, none⟩ : Addr).add j) = some u := by
  intro j u hj
  rw [Addr.add_lit, (RowAt.last w #[a, b] t).cell, Nat.zero_add]
  simpa using hj

set_option maxHeartbeats 2000000 in
set_option maxRecDepth 100000 in
theorem lent_any (a : Option Addr) (cap : Nat) (xs : List Int) (w : World) (hr : SR w a (zC xs)) (hn0 : a = none → cap = 0) (hm : (xs.length + 2) * 8 ≤ 140737488355328) :
    Calls Try.prog 40 #[.slice a xs.length cap] w fun e w' => ∃ g cap, e = .returned (.slice (some ⟨g, 0, none⟩) xs.length cap) ∧
      w'.ownsRow w.heap.size 3 1 (.slice (some ⟨g, 0, none⟩) (xs.length + 2) cap) (xs.length + 2) (zC (xs ++ [-77, -78])) ∧ Below w.heap.size w w' := by
  obtain ⟨i0, hi, hz0, hz1, hz2⟩ := info_parts Try.info_int
  have HR : Hid (SR w a (zC xs)) := hr
  clear hr
  have hzl : (zC xs).length = xs.length := by simp [zC]
  have h1c : ∀ u ∈ zC xs, u.oneCell' = true := by
    intro u hu
    obtain ⟨z, _, rfl⟩ := List.mem_map.1 hu
    rfl
  have HO0 : Hid ((w.alloc (.cells #[] 3)).ownsRow w.heap.size 3 1 (.slice (some ⟨w.heap.size, 0, none⟩) 0 0) 0 []) := World.ownsRow_made w #[] 0 (Nat.le_refl _) (by unfold maxLen; omega) rfl
  have HB0 : Hid (Below w.heap.size w (w.alloc (.cells #[] 3))) := (Below.refl _ _).alloc (Nat.le_refl _) _
  have hn1 : xs.length ≤ 17592186044414 := by omega
  clear hm
  have second : ∀ (v2 : Value) (w2 : World), v2 ≠ .slice none 0 0 → w2.ownsRow w.heap.size 3 1 v2 xs.length (zC xs) → Below w.heap.size w w2 → ∀ (w3 : World) (v3 : Value), w3.ownsRow w.heap.size 3 1 v3 (xs.length + 2) (zC xs ++ [.int .i64 (-77), .int .i64 (-78)]) → (w2.alloc (.cells #[.int .i64 (-77), .int .i64 (-78)] 3)).grownBy w3 v2.ownBlock →
      ∃ g cap, v3 = .slice (some ⟨g, 0, none⟩) (xs.length + 2) cap ∧ xs.length + 2 ≤ cap ∧ w3.ownsRow w.heap.size 3 1 (.slice (some ⟨g, 0, none⟩) (xs.length + 2) cap) (xs.length + 2) (zC (xs ++ [-77, -78])) ∧ Below w.heap.size w w3 := by
    intro v2 w2 hv2 ho2 hb2 w3 v3 ho3 hg3
    have ho3' := ho3
    obtain ⟨hl3, h3⟩ := ho3'
    rcases h3 with ⟨_, h3⟩ | ⟨g, cp, cur, rfl, _, _, hcp, _⟩
    · omega
    · exact ⟨g, cp, rfl, hcp, by rw [zC_append]; exact ho3, (hb2.alloc hb2.size _).grown hg3 (by have := hb2.size; simp; omega) (fun k hk => (ho2.lt k hk).1)⟩
  have HS : Hid _ := second
  clear second
  cases a with
  | none =>
    obtain rfl : xs = [] := by
      cases xs with
      | nil => rfl
      | cons y t =>
        obtain ⟨g, o, h, _⟩ := HR.out.int (i := 0) (by simp)
        cases h
    obtain rfl : cap = 0 := hn0 rfl
    clear hn0
    go_enter Try.func40, Try.ntmps40
    go_wp2_with (first
      | (at_builtin; refine wpList_append_own_none rfl _ _ 22 rfl w.heap.size 3 i0 1 Try.underlying22 hi _ _ _ rfl HO0.out rfl ?_)
      | (at_builtin; refine wpList_append_own _ rfl _ _ 22 rfl w.heap.size 3 i0 (.int .i64 0) 1 8 Try.underlying22 hi hz0 hz1 hz2 rfl (by decide) _ _ _ rfl (HO0.out.alloc _) ⟨w.heap.size + 1, 0, none⟩ 2 2 [.int .i64 (-77), .int .i64 (-78)] rfl rfl ?c1 ?c2 ?c3 ?c4 ?c5 ?_))
    case c1 => have := two_new (w.alloc (.cells #[] 3)) (.int .i64 (-77)) (.int .i64 (-78)) 3; simpa using this
    case c2 => intro u hu; simp at hu; rcases hu with rfl | rfl <;> rfl
    case c3 => unfold maxLen; omega
    case c4 => omega
    case c5 => simp; omega
    intro v3 w3 ho3 hg3 _
    obtain ⟨g, cp, rfl, hcp, ho4, hb4⟩ := HS.out (.slice (some ⟨w.heap.size, 0, none⟩) 0 0) _ (by simp) HO0.out HB0.out w3 v3 ho3 hg3
    have HO4 : Hid (w3.ownsRow w.heap.size 3 1 (.slice (some ⟨g, 0, none⟩) (_ + 2) cp) (_ + 2) (zC (_ ++ [-77, -78]))) := ho4
    have HB4 : Hid _ := hb4
    clear ho3 hg3 ho4 hb4
    have hcI : (2 : Int) ≤ cp := by simp at hcp; omega
    go_wp2_with fail
    go_ret
    exact ⟨g, cp, rfl, HO4.out, HB4.out⟩
  | some ad =>
    clear hn0
    have hnews : ∀ j u, (zC xs)[j]? = some u → (w.alloc (.cells #[] 3)).cell? (ad.add j) = some u := by
      intro j u hj
      have hjl : j < xs.length := by have := (List.getElem?_eq_some_iff.1 hj).1; omega
      obtain ⟨g, o, e, hg, hc⟩ := HR.out j u hj
      cases e
      rw [Addr.add_lit, below_cellJ HB0.out hg]
      exact hc
    have HN : Hid _ := hnews
    clear hnews
    go_enter Try.func40, Try.ntmps40
    go_wp2_with (at_builtin; refine wpList_append_own _ rfl _ _ 22 rfl w.heap.size 3 i0 (.int .i64 0) 1 8 Try.underlying22 hi hz0 hz1 hz2 rfl (by decide) _ _ _ rfl HO0.out ad xs.length cap (zC xs) rfl (by omega) HN.out h1c (by unfold maxLen; omega) (by omega) (by simp) ?_)
    intro v2 w2 ho2 hg2 hn2
    have hb2 : Below w.heap.size w w2 := HB0.out.grown hg2 (by simp) (fun k hk => (HO0.out.lt k hk).1)
    have hv2 : v2 ≠ .slice none 0 0 := hn2
    obtain ⟨a2, c2, rfl⟩ := own_shape ho2
    have HO2 : Hid (w2.ownsRow w.heap.size 3 1 (.slice a2 xs.length c2) xs.length (zC xs)) := ho2
    have HB2 : Hid _ := hb2
    clear ho2 hg2 hn2 hb2
    go_wp2_with (at_builtin; refine wpList_append_own _ rfl _ _ 22 rfl w.heap.size 3 i0 (.int .i64 0) 1 8 Try.underlying22 hi hz0 hz1 hz2 rfl (by decide) _ _ _ rfl (HO2.out.alloc _) ⟨w2.heap.size, 0, none⟩ 2 2 [.int .i64 (-77), .int .i64 (-78)] rfl rfl ?c1 ?c2 ?c3 ?c4 ?c5 ?_)
    case c1 => exact two_new w2 (.int .i64 (-77)) (.int .i64 (-78)) 3
    case c2 => intro u hu; simp at hu; rcases hu with rfl | rfl <;> rfl
    case c3 => unfold maxLen; omega
    case c4 => omega
    case c5 => have := HB2.out.size; simp; omega
    intro v3 w3 ho3 hg3 _
    obtain ⟨g, cp, rfl, hcp, ho4, hb4⟩ := HS.out _ _ hv2 HO2.out HB2.out w3 v3 ho3 hg3
    have HO4 : Hid (w3.ownsRow w.heap.size 3 1 (.slice (some ⟨g, 0, none⟩) (_ + 2) cp) (_ + 2) (zC (_ ++ [-77, -78]))) := ho4
    have HB4 : Hid _ := hb4
    clear ho3 hg3 ho4 hb4
    have hcI : (xs.length : Int) ≤ cp := by omega
    have hcI2 : (xs.length : Int) + 2 ≤ cp := by omega
    go_wp2_with fail
    go_ret
    exact ⟨g, cp, rfl, HO4.out, HB4.out⟩

theorem drew_twice (w : World) (q n : Nat) : (w.drewN q).drewN n = w.drewN (q + n) := by simp [World.drewN, Nat.add_assoc]
theorem drewN_below (w : World) (q : Nat) : Below w.heap.size w (w.drewN q) := ⟨rfl, rfl, rfl, Nat.le_refl _, fun _ _ => rfl⟩

set_option maxHeartbeats 1000000 in
set_option maxRecDepth 100000 in
theorem same_any (a1 a2 : Option Addr) (c1 c2 : Nat) (xs : List Int) (w : World) (g1 : SR w a1 (zC xs)) (g2 : SR w a2 (zC xs)) (hm1 : xs.length ≤ 9223372036854775806) :
    Calls Try.prog 37 #[.slice a1 xs.length c1, .slice a2 xs.length c2] w fun e w' => e = .returned (.bool true) ∧ Below w.heap.size w w' := by
  have H1 : Hid (SR w a1 (zC xs)) := g1
  have H2 : Hid (SR w a2 (zC xs)) := g2
  clear g1 g2
  go_enter Try.func37, Try.ntmps37
  go_wp2_with fail
  go_loopw [5] (fun vi wr => ∃ i q : Nat, vi = .int .i64 i ∧ i ≤ xs.length ∧ wr = w.drewN q) (fun vi _ => xs.length - (intOf vi).toNat)
  case atStart => exact ⟨0, 0, rfl, Nat.zero_le _, rfl⟩
  case round =>
    obtain ⟨i, q, rfl, hi, rfl⟩ := hrel
    by_cases hlt : i < xs.length
    · obtain ⟨ga, oa, rfl, _, ca⟩ := H1.out.int hlt
      obtain ⟨gb, ob, rfl, _, cb⟩ := H2.out.int hlt
      obtain ⟨x, hx⟩ : ∃ x, xs.getD i 0 = x := ⟨_, rfl⟩
      rw [hx] at ca cb
      clear hx
      go_wp2_with fail
      go_quiet (fail)
      go_wp2
      go_roundw
      case rel => exact ⟨i + 1, _, by go_num, by omega, rfl⟩
      case measure => simp [intOf]; omega
    · have hiI : ¬ (i : Int) < xs.length := by omega
      go_wp2_with fail
      go_ret
      exact ⟨rfl, drewN_below w q⟩

theorem lent_sr {w : World} {base g cap : Nat} {xs : List Int} (ho : w.ownsRow base 3 1 (.slice (some ⟨g, 0, none⟩) (xs.length + 2) cap) (xs.length + 2) (zC (xs ++ [-77, -78]))) : SR w (some ⟨g, 0, none⟩) (zC xs) := by
  have h := own_sr ho
  intro i u hi
  exact h i u (by rw [zC_append, List.getElem?_append_left (List.getElem?_eq_some_iff.1 hi).1]; exact hi)

set_option maxHeartbeats 2000000 in
set_option maxRecDepth 100000 in
theorem stay_any (a2 : Option Addr) (c2 : Nat) (xs : List Int) (w : World) (hv : SR w a2 (zC xs)) (base g cap : Nat) (hm : xs.length + 2 ≤ 9223372036854775806)
    (ho : w.ownsRow base 3 1 (.slice (some ⟨g, 0, none⟩) (xs.length + 2) cap) (xs.length + 2) (zC (xs ++ [-77, -78]))) :
    Calls Try.prog 47 #[.slice (some ⟨g, 0, none⟩) xs.length cap, .slice a2 xs.length c2] w fun e w' => e = .returned (.bool true) ∧ Below w.heap.size w w' := by
  have HRx : Hid (SR w (some ⟨g, 0, none⟩) (zC xs)) := lent_sr ho
  have hcap : xs.length + 2 ≤ cap := by
    obtain ⟨_, h⟩ := ho
    rcases h with ⟨h, _⟩ | ⟨g', cp, cur, h, _, _, hcp, _⟩
    · simp at h
    · simp at h
      omega
  have hc1 : w.cell? ⟨g, xs.length, none⟩ = some (.int .i64 (-77)) := by
    rw [ho.cellAt xs.length (by omega)]
    simp [zC]
  have hc2 : w.cell? ⟨g, xs.length + 1, none⟩ = some (.int .i64 (-78)) := by
    rw [ho.cellAt (xs.length + 1) (by omega)]
    simp [zC]
  have hg : g < w.heap.size := (ho.lt g rfl).2
  have HRv : Hid (SR w a2 (zC xs)) := hv
  clear ho hv
  have hcI : (xs.length : Int) + 2 ≤ cap := by omega
  have hcI2 : (xs.length : Int) ≤ cap := by omega
  go_enter Try.func47, Try.ntmps47
  go_wp2_with fail
  refine (same_any _ _ _ _ xs _ HRx.out HRv.out (by omega)).mono ?_
  rintro e w1 ⟨rfl, hb1⟩
  have hd1 : w1.cell? ⟨g, xs.length, none⟩ = some (.int .i64 (-77)) := by rw [below_cellJ hb1 hg]; exact hc1
  have hd2 : w1.cell? ⟨g, xs.length + 1, none⟩ = some (.int .i64 (-78)) := by rw [below_cellJ hb1 hg]; exact hc2
  clear hc1 hc2
  go_wp2_with fail
  go_ret
  exact ⟨rfl, hb1⟩

set_option maxHeartbeats 1000000 in
set_option maxRecDepth 100000 in
theorem bools_any (a1 a2 : Option Addr) (c1 c2 : Nat) (xs : List Bool) (w : World) (g1 : SR w a1 (bC xs)) (g2 : SR w a2 (bC xs)) (hm1 : xs.length ≤ 9223372036854775806) :
    Calls Try.prog 48 #[.slice a1 xs.length c1, .slice a2 xs.length c2] w fun e w' => e = .returned (.bool true) ∧ Below w.heap.size w w' := by
  have H1 : Hid (SR w a1 (bC xs)) := g1
  have H2 : Hid (SR w a2 (bC xs)) := g2
  clear g1 g2
  go_enter Try.func48, Try.ntmps48
  go_wp2_with fail
  go_loopw [5] (fun vi wr => ∃ i q : Nat, vi = .int .i64 i ∧ i ≤ xs.length ∧ wr = w.drewN q) (fun vi _ => xs.length - (intOf vi).toNat)
  case atStart => exact ⟨0, 0, rfl, Nat.zero_le _, rfl⟩
  case round =>
    obtain ⟨i, q, rfl, hi, rfl⟩ := hrel
    by_cases hlt : i < xs.length
    · obtain ⟨ga, oa, rfl, _, ca⟩ := H1.out.bool hlt
      obtain ⟨gb, ob, rfl, _, cb⟩ := H2.out.bool hlt
      obtain ⟨x, hx⟩ : ∃ x, xs.getD i false = x := ⟨_, rfl⟩
      rw [hx] at ca cb
      clear hx
      go_wp2_with fail
      go_quiet (fail)
      go_wp2
      go_roundw
      case rel => exact ⟨i + 1, _, by go_num, by omega, rfl⟩
      case measure => simp [intOf]; omega
    · have hiI : ¬ (i : Int) < xs.length := by omega
      go_wp2_with fail
      go_ret
      exact ⟨rfl, drewN_below w q⟩

end Go.Proofs.Ytabkhoiccjkghaa
