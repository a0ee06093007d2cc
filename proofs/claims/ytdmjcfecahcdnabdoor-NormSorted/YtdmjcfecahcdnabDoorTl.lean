/- Contracts of the laws' LentNodes and StayNodes, and of the document's Compare. -/
import Derived.Test.YtdmjcfecahcdnabDoorTd
import Derived.Test.YtdmjcfecahcdnabDoorTc
import Derived.Laws.AppendOwnNone
namespace Go.Proofs.YtdmjcfecahcdnabDoor
open Go.RowKit Go.Lib

theorem four_new (w : World) (a b c d : Value) (t : TypeId) : ∀ j u, [a, b, c, d][j]? = some u → (w.alloc (.cells #[a, b, c, d] t)).cell? ((⟨w.heap.size, 0, none⟩ : Addr).add j) = some u := by
  intro j u hj
  rw [Addr.add_lit, (RowAt.last w #[a, b, c, d] t).cell, Nat.zero_add]
  simpa using hj

theorem lent_reads {w : World} {base g cap : Nat} {xs : List Nd} (ho : w.ownsRow base 33 2 (.slice (some ⟨g, 0, none⟩) (xs.length + 2) cap) (xs.length + 2) (ndC (xs ++ [(-7, 0), (-8, 0)]))) :
    NReads w (.slice (some ⟨g, 0, none⟩) xs.length cap) xs ∧ g < w.heap.size ∧ xs.length + 2 ≤ cap ∧ w.cell? ⟨g, xs.length * 2, none⟩ = some (.int .i64 (-7)) ∧ w.cell? ⟨g, xs.length * 2 + 1, none⟩ = some (.int .u8 0) ∧ w.cell? ⟨g, (xs.length + 1) * 2, none⟩ = some (.int .i64 (-8)) ∧ w.cell? ⟨g, (xs.length + 1) * 2 + 1, none⟩ = some (.int .u8 0) := by
  have hcap : xs.length + 2 ≤ cap := by
    obtain ⟨_, h⟩ := ho
    rcases h with ⟨h, _⟩ | ⟨g', cp, cur, h, _, _, hcp, _⟩
    · simp at h
    · simp at h; omega
  have hl : (xs ++ [((-7, 0) : Nd), (-8, 0)]).length = xs.length + 2 := by simp
  obtain ⟨a2, c2, hsl, hrd⟩ := own_nreads (ts := xs ++ [(-7, 0), (-8, 0)]) (base := base) (by rw [hl]; exact ho)
  rw [hl] at hsl hrd
  simp only [Value.slice.injEq] at hsl
  obtain ⟨rfl, _, rfl⟩ := hsl
  obtain ⟨g1, o1, e1, hg1, p1, p2⟩ := hrd xs.length (by omega)
  simp only [Option.some.injEq, Addr.mk.injEq] at e1
  obtain ⟨rfl, rfl, _⟩ := e1
  obtain ⟨g2, o2, e2, hg2, q1, q2⟩ := hrd (xs.length + 1) (by omega)
  simp only [Option.some.injEq, Addr.mk.injEq] at e2
  obtain ⟨rfl, rfl, _⟩ := e2
  rw [Nat.zero_add] at p1 p2 q1 q2
  refine ⟨⟨_, _, rfl, fun i hi => ?_⟩, hg1, hcap, ?_, ?_, ?_, ?_⟩
  · obtain ⟨g', o', e, hg, c1, c2⟩ := hrd i (by omega)
    have eg : (xs ++ [((-7, 0) : Nd), (-8, 0)]).getD i (0, 0) = xs.getD i (0, 0) := by simp [List.getD_eq_getElem?_getD, List.getElem?_append_left hi]
    rw [eg] at c1 c2
    exact ⟨g', o', e, hg, c1, c2⟩
  · rw [p1]; simp
  · rw [p2]; simp
  · rw [q1]; simp
  · rw [q2]; simp

set_option maxHeartbeats 4000000 in
set_option maxRecDepth 100000 in
theorem rcompare_any (v1 v2 : Value) (a b : List Nd) (w : World) (h1 : NReads w v1 a) (h2 : NReads w v2 b) (hm : a.length ≤ 9223372036854775806) :
    Calls Tryd.prog 8 #[v1, v2] w fun e w' => e = .returned (.int .i64 (ct a b)) ∧ Below w.heap.size w w' := by
  obtain ⟨a1, c1, rfl, g1⟩ := h1
  obtain ⟨a2, c2, rfl, g2⟩ := h2
  have H1 : Hid _ := g1
  have H2 : Hid _ := g2
  clear g1 g2
  by_cases hlt0 : a.length < b.length
  · have HC : Hid (ct a b = -1) := by
      show _ = _
      have hc : ci a.length b.length = -1 := by unfold ci; rw [if_pos (by omega)]
      unfold ct; rw [hc]; rfl
    have hI : (a.length : Int) < b.length := by omega
    go_enter Tryd.func8, Tryd.ntmps8
    go_wp2_with fail
    go_ret
    exact ⟨ret_int HC.out.symm, Below.refl _ _⟩
  by_cases hgt0 : b.length < a.length
  · have HC : Hid (ct a b = 1) := by
      show _ = _
      have hc : ci a.length b.length = 1 := by unfold ci; rw [if_neg (by omega), if_pos (by omega)]
      unfold ct; rw [hc]; rfl
    have hI : ¬ (a.length : Int) < b.length := by omega
    have hI2 : (b.length : Int) < a.length := by omega
    go_enter Tryd.func8, Tryd.ntmps8
    go_wp2_with fail
    go_ret
    exact ⟨ret_int HC.out.symm, Below.refl _ _⟩
  have HL : Hid (a.length = b.length) := by show _ = _; omega
  have HC : Hid (ct a b = cl a b) := by
    show _ = _
    have hc : ci a.length b.length = 0 := by unfold ci; rw [if_neg (by omega), if_neg (by omega)]
    unfold ct; rw [if_pos hc]
  rw [HC.out]
  have hI : ¬ (a.length : Int) < b.length := by omega
  have hI2 : ¬ (b.length : Int) < a.length := by omega
  have HS : Hid (cl (a.drop 0) (b.drop 0) = cl a b) := rfl
  clear hlt0 hgt0
  go_enter Tryd.func8, Tryd.ntmps8
  go_wp2_with fail
  go_loopw [5] (fun vi wr => ∃ i q : Nat, i ≤ a.length ∧ vi = .int .i64 i ∧ cl (a.drop i) (b.drop i) = cl a b ∧ wr = w.drewN q) (fun vi _ => a.length - (intOf vi).toNat)
  case atStart => exact ⟨0, 0, Nat.zero_le _, rfl, HS.out, rfl⟩
  case round =>
    obtain ⟨i, q, hi, rfl, hc, rfl⟩ := hrel
    have HCd : Hid (cl (a.drop i) (b.drop i) = cl a b) := hc
    clear hc
    by_cases hlt : i < a.length
    · have hiI : (i : Int) < a.length := by omega
      have hlt2 : i < b.length := by have := HL.out; omega
      have hiI3 : (i : Int) < b.length := by omega
      obtain ⟨ga, oa, rfl, hga, a11, a12⟩ := H1.out i hlt
      obtain ⟨gb, ob, rfl, hgb, b11, b12⟩ := H2.out i hlt2
      have hst := cl_drop hlt hlt2
      rw [HCd.out] at hst
      obtain ⟨⟨k, s⟩, hx⟩ : ∃ x, a.getD i (0, 0) = x := ⟨_, rfl⟩
      obtain ⟨⟨l, t⟩, hy⟩ : ∃ y, b.getD i (0, 0) = y := ⟨_, rfl⟩
      rw [hx] at a11 a12
      rw [hy] at b11 b12
      rw [hx, hy] at hst
      obtain ⟨z, hz⟩ : ∃ z, cn (k, s) (l, t) = z := ⟨_, rfl⟩
      rw [hz] at hst
      have HST : Hid (cl a b = if z = 0 then cl (a.drop (i + 1)) (b.drop (i + 1)) else z) := hst
      clear hst hx hy
      by_cases hkl : k < l
      · have HZ : Hid (z = -1) := by show _ = _; rw [← hz]; simp [cn, ci, hkl]
        clear hz
        go_wp2_with fail
        go_region
        go_wp2_with fail
        go_ret
        exact ⟨ret_int (by rw [HST.out, HZ.out]; rfl), drewN_below w _⟩
      by_cases hlk : l < k
      · have HZ : Hid (z = 1) := by show _ = _; rw [← hz]; simp [cn, ci, hkl, hlk]
        clear hz
        go_wp2_with fail
        go_region
        go_wp2_with fail
        go_region
        go_wp2_with fail
        go_ret
        exact ⟨ret_int (by rw [HST.out, HZ.out]; rfl), drewN_below w _⟩
      obtain rfl : k = l := by omega
      by_cases hs : s < t
      · have HZ : Hid (z = -1) := by show _ = _; rw [← hz]; simp [cn, ci, hs]
        clear hz
        go_wp2_with fail
        go_region
        go_wp2_with fail
        go_region
        go_wp2_with fail
        go_region
        go_wp2_with fail
        go_ret
        exact ⟨ret_int (by rw [HST.out, HZ.out]; rfl), drewN_below w _⟩
      by_cases ht : t < s
      · have HZ : Hid (z = 1) := by show _ = _; rw [← hz]; simp [cn, ci, hs, ht]
        clear hz
        go_wp2_with fail
        go_region
        go_wp2_with fail
        go_region
        go_wp2_with fail
        go_region
        go_wp2_with fail
        go_region
        go_wp2_with fail
        go_ret
        exact ⟨ret_int (by rw [HST.out, HZ.out]; rfl), drewN_below w _⟩
      obtain rfl : s = t := by omega
      have HZ : Hid (z = 0) := by show _ = _; rw [← hz]; simp [cn, ci]
      clear hz
      go_wp2_with fail
      go_region
      go_wp2_with fail
      go_region
      go_wp2_with fail
      go_region
      go_wp2_with fail
      go_region
      go_wp2_with fail
      go_roundw
      case rel => exact ⟨i + 1, _, by omega, by go_num, by have h9 := HST.out; rw [HZ.out, if_pos rfl] at h9; exact h9.symm, rfl⟩
      case measure => simp [intOf]; omega
    · have hiI : ¬ (i : Int) < a.length := by omega
      have HE : Hid (cl a b = 0) := by show _ = _; rw [← HCd.out, List.drop_eq_nil_of_le (by omega)]; rfl
      go_wp2_with fail
      go_ret
      exact ⟨ret_int HE.out.symm, drewN_below w _⟩

end Go.Proofs.YtdmjcfecahcdnabDoor
