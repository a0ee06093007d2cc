/- Rows that are written in place: slices.Delete of nodes and of numbers. -/
import Derived.Test.YtdgpajdlomihaaaGreatDoorQXc
import Derived.Test.YtdgpajdlomihaaaGreatDoorQWs
import Derived.Test.YtdgpajdlomihaaaGreatDoorQA
import Derived.Deep.RegionLaw
import Derived.Deep.AppendLies
import Derived.Laws.IdiomCopy
import Derived.Lib.SliceRun
namespace Go.Proofs.YtdgpajdlomihaaaGreatDoor
open Go Go.RowKit
set_option linter.unusedVariables false

/-- What Delete leaves of a row of cells. -/
theorem deleted_row {size : Nat} (hs : 0 < size) {cur : Array Value} {n cap i j : Nat} {xs : List Value} (hij : i ≤ j) (hj : j ≤ n) (hn : n ≤ cap) (hc : cur.size = cap * size) (ht : cur.toList.take (n * size) = xs) (zs : List Value) (hz : zs.length = (j - i) * size) :
    (setL (setL cur (i * size) (xs.drop (j * size))) ((i + (n - j)) * size) zs).size = cap * size ∧
    (setL (setL cur (i * size) (xs.drop (j * size))) ((i + (n - j)) * size) zs).toList.take ((i + (n - j)) * size) = xs.take (i * size) ++ xs.drop (j * size) := by
  have hxl : xs.length = n * size := by rw [← ht, List.length_take, Array.length_toList, hc]; exact Nat.min_eq_left (Nat.mul_le_mul_right _ hn)
  have hdl : (xs.drop (j * size)).length = (n - j) * size := by rw [List.length_drop, hxl, Nat.sub_mul]
  have m1 : i * size + (n - j) * size = (i + (n - j)) * size := by rw [Nat.add_mul]
  have m2 : (i + (n - j)) * size + (j - i) * size = n * size := by rw [← Nat.add_mul]; congr 1; omega
  have m3 : n * size ≤ cap * size := Nat.mul_le_mul_right _ hn
  have m4 : i * size ≤ j * size := Nat.mul_le_mul_right _ hij
  have m5 : j * size ≤ n * size := Nat.mul_le_mul_right _ hj
  have s1 : (setL cur (i * size) (xs.drop (j * size))).size = cap * size := by rw [setL_size, hc]
  refine ⟨by rw [setL_size, s1], ?_⟩
  apply List.ext_getElem?
  intro m
  rw [List.getElem?_take, List.getElem?_append]
  by_cases hm : m < (i + (n - j)) * size
  · rw [if_pos hm, Array.getElem?_toList, setL_get _ _ _ _ (by rw [s1, hz]; omega), if_neg (by omega), setL_get _ _ _ _ (by rw [hc, hdl]; omega), hdl]
    by_cases h1 : m < i * size
    · rw [if_neg (by omega), if_pos (by rw [List.length_take, hxl]; omega), List.getElem?_take, if_pos h1, ← ht, List.getElem?_take, if_pos (by omega), Array.getElem?_toList]
    · rw [if_pos (by omega), if_neg (by rw [List.length_take, hxl]; omega), List.length_take, hxl, Nat.min_eq_left (by omega)]
  · rw [if_neg hm, if_neg (by rw [List.length_take, hxl]; omega)]
    rw [List.getElem?_eq_none]
    rw [hdl, List.length_take, hxl, Nat.min_eq_left (by omega)]
    omega

theorem ndC_cut (N : List Nd) (i j : Nat) (hi : i ≤ N.length) (hj : j ≤ N.length) : ndC (N.take i ++ N.drop j) = (ndC N).take (i * 2) ++ (ndC N).drop (j * 2) := by
  have h1 : ndC N = ndC (N.take i) ++ ndC (N.drop i) := by rw [← ndC_append, List.take_append_drop]
  have h2 : ndC N = ndC (N.take j) ++ ndC (N.drop j) := by rw [← ndC_append, List.take_append_drop]
  have l1 : (ndC (N.take i)).length = i * 2 := by rw [ndC_length, List.length_take, Nat.min_eq_left hi]
  have l2 : (ndC (N.take j)).length = j * 2 := by rw [ndC_length, List.length_take, Nat.min_eq_left hj]
  rw [ndC_append]
  congr 1
  · rw [h1, ← l1, List.take_left]
  · rw [h2, ← l2, List.drop_left]
theorem inC_cut (N : List Nat) (i j : Nat) (hi : i ≤ N.length) (hj : j ≤ N.length) : inC (N.take i ++ N.drop j) = (inC N).take (i * 1) ++ (inC N).drop (j * 1) := by
  rw [inC_append, Nat.mul_one, Nat.mul_one]
  simp [inC]
theorem inC_one (N : List Nat) : ∀ u ∈ inC N, u.oneCell' = true := fun u hu => by
  simp only [inC, List.mem_map] at hu
  obtain ⟨n, _, rfl⟩ := hu
  rfl
theorem zero_one2 (n : Nat) : ∀ u ∈ (Builtin.zeroCells #[.int .i64 0, .int .u8 0] n).toList, u.oneCell' = true := fun u hu => by
  simp only [Builtin.zeroCells, Array.toList_map, List.mem_map] at hu
  obtain ⟨i, _, rfl⟩ := hu
  have h2 : (#[Value.int .i64 0, Value.int .u8 0] : Array Value).size = 2 := rfl
  rw [h2]
  have : i % 2 = 0 ∨ i % 2 = 1 := by omega
  rcases this with h | h <;> rw [h] <;> rfl
theorem zero_one1 (n : Nat) : ∀ u ∈ (Builtin.zeroCells #[.int .i64 0] n).toList, u.oneCell' = true := fun u hu => by
  simp only [Builtin.zeroCells, Array.toList_map, List.mem_map] at hu
  obtain ⟨i, _, rfl⟩ := hu
  have h2 : (#[Value.int .i64 0] : Array Value).size = 1 := rfl
  rw [h2, Nat.mod_one]
  rfl

theorem delN_eq (g cap i n : Nat) (w : World) (hj : i ≤ n) (hN : n ≤ 1000000) (hc : cap ≤ 9223372036854775807) (hnc : n ≤ cap) :
    Calls Tryz.prog 114 #[.slice (some ⟨g, 0, none⟩) n cap, .int .i64 (i : Int), .int .i64 (i : Int)] w fun e w' => e = .returned (.slice (some ⟨g, 0, none⟩) n cap) ∧ w' = w := by
  by_cases hiN : n = i
  · subst hiN
    go_enter Tryz.func114, Tryz.ntmps114
    go_wp2_with fail
    go_ret
    exact ⟨rfl, rfl⟩
  · go_enter Tryz.func114, Tryz.ntmps114
    go_wp2_with fail
    go_ret
    exact ⟨rfl, rfl⟩

set_option maxHeartbeats 4000000 in
set_option maxRecDepth 100000 in
theorem delN (base g cap i j : Nat) (N : List Nd) (w : World) (h : w.ownsRow base 51 2 (.slice (some ⟨g, 0, none⟩) N.length cap) N.length (ndC N)) (hij : i ≤ j) (hj : j ≤ N.length) (hN : N.length ≤ 1000000) :
    Calls Tryz.prog 114 #[.slice (some ⟨g, 0, none⟩) N.length cap, .int .i64 (i : Int), .int .i64 (j : Int)] w fun e w' => e = .returned (.slice (some ⟨g, 0, none⟩) (i + (N.length - j)) cap) ∧ w'.ownsRow base 51 2 (.slice (some ⟨g, 0, none⟩) (i + (N.length - j)) cap) (i + (N.length - j)) (ndC (N.take i ++ N.drop j)) ∧ w.grownBy w' (some g) := by
  obtain ⟨hxl, hh⟩ := id h
  rcases hh with ⟨hh, _⟩ | ⟨g', cap', cur, e, hb, hg, hnc, hcm, hcs, htk⟩
  · cases hh
  simp only [Value.slice.injEq, Option.some.injEq, Addr.mk.injEq] at e
  obtain ⟨⟨rfl, _⟩, _, rfl⟩ := e
  have hcm' : cap ≤ 9223372036854775807 := by unfold maxLen at hcm; exact hcm
  by_cases heq : i = j
  · subst heq
    refine (delN_eq g cap i N.length w hj hN hcm' hnc).mono ?_
    rintro e w' ⟨rfl, rfl⟩
    rw [List.take_append_drop, show i + (N.length - i) = N.length by omega]
    exact ⟨rfl, h, ⟨rfl, rfl, rfl, Nat.le_refl _, fun _ _ _ => rfl⟩⟩
  · have hlt : i < j := by omega
    have hcell : ∀ t, t < cap * 2 → (w.cell? ⟨g, t, none⟩).isSome = true ∧ w.frozen? ⟨g, t, none⟩ = false := fun t ht => ⟨by simp [World.cell?, hg, hcs, ht], by simp [World.frozen?, hg]⟩
    have hat : ∀ t u, (ndC N)[t]? = some u → w.cell? ⟨g, t, none⟩ = some u := fun t u hu => by
      have := h.cells (g := g) rfl t u hu
      rw [Addr.add_lit] at this
      simpa using this
    obtain ⟨i0, hi0, hz0, hz1, hz2⟩ := info_parts Tryz.info_node
    have hv : ∀ w, (zeroValue 51).run Tryz.prog w = .ok (.agg #[.int .i64 0, .int .u8 0]) w := fun w => by simp [zeroValue, typeInfo, hi0, hz0]
    obtain ⟨zs, hzs⟩ : ∃ zs, (Builtin.zeroCells #[.int .i64 0, .int .u8 0] (j - i)).toList = zs := ⟨_, rfl⟩
    have hzl : zs.length = (j - i) * 2 := by rw [← hzs]; simp [Builtin.zeroCells]
    have hz1c : ∀ u ∈ zs, u.oneCell' = true := by rw [← hzs]; exact zero_one2 _
    have hrow := deleted_row (size := 2) (by decide) hij hj hnc hcs htk zs hzl
    have hEN : ndC (N.take i ++ N.drop j) = (ndC N).take (i * 2) ++ (ndC N).drop (j * 2) := ndC_cut N i j (by omega) hj
    rw [hEN]
    obtain ⟨xs, hxs⟩ : ∃ xs, ndC N = xs := ⟨_, rfl⟩
    have hx1 : ∀ u ∈ xs, u.oneCell' = true := by rw [← hxs]; exact ndC_one N
    rw [hxs] at hxl htk hat hrow ⊢
    obtain ⟨n, hn⟩ : ∃ n, N.length = n := ⟨_, rfl⟩
    rw [hn] at hj hN hnc hxl htk hrow ⊢
    obtain ⟨m, hm⟩ : ∃ m, i + (n - j) = m := ⟨_, rfl⟩
    rw [hm] at hrow ⊢
    clear h hxs hn hEN N
    obtain ⟨news, hnews⟩ : ∃ news, xs.drop (j * 2) = news := ⟨_, rfl⟩
    have hnl : news.length = (n - j) * 2 := by rw [← hnews, List.length_drop, hxl, Nat.sub_mul]
    have hn1 : Hid (∀ u ∈ news, u.oneCell' = true) := fun u hu => by rw [← hnews] at hu; exact hx1 u (List.mem_of_mem_drop hu)
    obtain ⟨A, hA, hsrc⟩ : ∃ A : Addr, (if cap = j then some (⟨g, 0, none⟩ : Addr) else some ⟨g, j * 2, none⟩) = some A ∧ Hid (∀ t u, news[t]? = some u → w.drew.cell? (A.add t) = some u) := by
      by_cases hcj : cap = j
      · refine ⟨⟨g, 0, none⟩, by simp [hcj], fun t u hu => ?_⟩
        have h0 : news.length = 0 := by rw [hnl]; omega
        rw [List.length_eq_zero_iff.1 h0] at hu
        simp at hu
      · refine ⟨⟨g, j * 2, none⟩, by simp [hcj], fun t u hu => ?_⟩
        rw [Addr.add_lit]
        exact hat _ u (by rw [← hu, ← hnews, List.getElem?_drop])
    rw [hnews] at hrow ⊢
    have hsp : Hid (∀ t, t < news.length → (w.drew.cell? ⟨g, 0 + i * 2 + t, none⟩).isSome = true ∧ w.drew.frozen? ⟨g, 0 + i * 2 + t, none⟩ = false) := fun t ht => by
      rw [hnl] at ht
      exact hcell _ (by omega)
    have hW0 : w.drew.heap[g]? = some (.cells cur 51 (0, 0)) := hg
    have hW1 := setCells_blk news w.drew g (0 + i * 2) cur 51 hW0
    have hG1 : w.grownBy (w.drew.setCells g (0 + i * 2) news) (some g) := grown_trans (b := w.drew) ⟨rfl, rfl, rfl, Nat.le_refl _, fun _ _ _ => rfl⟩ (setCells_grown news w.drew g _)
    rw [Nat.zero_add] at hW1
    obtain ⟨W1, hWE⟩ : ∃ W1, w.drew.setCells g (0 + i * 2) news = W1 := ⟨_, rfl⟩
    have HWE : Hid (w.drew.setCells g (0 + i * 2) news = W1) := hWE
    rw [hWE] at hG1
    rw [Nat.zero_add] at hWE
    rw [hWE] at hW1
    have hmn : n - m = j - i := by omega
    have hcl : ∀ ty, (Builtin.clear_ #[22] ty #[.slice (some ⟨g, m * 2, none⟩) (n - m) (cap - m)]).run Tryz.prog W1 = .ok (.tuple #[]) (W1.setCells g (m * 2) zs) := fun ty =>
      run_clear_any W1 22 51 ty (.agg #[.int .i64 0, .int .u8 0]) Tryz.underlying22 hv g (m * 2) (n - m) (cap - m) (by omega) zs (by rw [hmn]; exact hzs) hz1c
        (fun t ht => by rw [hzl] at ht; simp only [World.cell?, hW1]; simp [setL_size, hcs]; omega) (fun t ht => by simp [World.frozen?, hW1])
    have HOUT : Hid ((W1.setCells g (m * 2) zs).ownsRow base 51 2 (.slice (some ⟨g, 0, none⟩) m cap) m (xs.take (i * 2) ++ news) ∧ w.grownBy (W1.setCells g (m * 2) zs) (some g)) := by
      refine ⟨⟨?_, .inr ⟨g, cap, _, rfl, hb, setCells_blk zs W1 g (m * 2) _ _ hW1, by omega, hcm, hrow.1, hrow.2⟩⟩, grown_trans hG1 (setCells_grown zs W1 g _)⟩
      rw [List.length_append, List.length_take, hxl, hnl, Nat.min_eq_left (Nat.mul_le_mul_right _ (by omega)), ← Nat.add_mul, hm]
    have hmn2 : m ≤ n := by omega
    have hmc2 : m ≤ cap := by omega
    have hmc : ¬ cap = m := by omega
    have hic : i ≤ cap := by omega
    have hjc : j ≤ cap := by omega
    have hnl2 : Hid (news.length = (n - j) * 2) := hnl
    have HML : Hid (i + (n - j) = m) := hm
    have HRM : Hid (i + (n - j) ≤ cap) := by show _ ≤ _; omega
    clear hW1 hG1 hWE hrow hcell hat hzs hzl hz1c htk hcs hg hW0 hx1 hxl hnl hnews hb hcm hmn hv hm
    go_enter Tryz.func114, Tryz.ntmps114
    go_wp2_with fail
    go_region_law (refine step_append_room rfl (.tmp 22) (.tmp 25) 22 rfl 51 i0 2 Tryz.underlying22 hi0 hz1 g 0 i cap rfl A (n - j) (cap - j) news rfl hnl2.out hsrc.out hn1.out HRM.out hsp.out ?_; rw [HWE.out, HML.out])
    go_wp2
    go_ret
    exact ⟨rfl, HOUT.out.1, HOUT.out.2⟩
theorem delZ_eq (g cap i n : Nat) (w : World) (hj : i ≤ n) (hN : n ≤ 1000000) (hc : cap ≤ 9223372036854775807) (hnc : n ≤ cap) :
    Calls Tryz.prog 115 #[.slice (some ⟨g, 0, none⟩) n cap, .int .i64 (i : Int), .int .i64 (i : Int)] w fun e w' => e = .returned (.slice (some ⟨g, 0, none⟩) n cap) ∧ w' = w := by
  by_cases hiN : n = i
  · subst hiN
    go_enter Tryz.func115, Tryz.ntmps115
    go_wp2_with fail
    go_ret
    exact ⟨rfl, rfl⟩
  · go_enter Tryz.func115, Tryz.ntmps115
    go_wp2_with fail
    go_ret
    exact ⟨rfl, rfl⟩

set_option maxHeartbeats 4000000 in
set_option maxRecDepth 100000 in
theorem delZ (base g cap i j : Nat) (N : List Nat) (w : World) (h : w.ownsRow base 3 1 (.slice (some ⟨g, 0, none⟩) N.length cap) N.length (inC N)) (hij : i ≤ j) (hj : j ≤ N.length) (hN : N.length ≤ 1000000) :
    Calls Tryz.prog 115 #[.slice (some ⟨g, 0, none⟩) N.length cap, .int .i64 (i : Int), .int .i64 (j : Int)] w fun e w' => e = .returned (.slice (some ⟨g, 0, none⟩) (i + (N.length - j)) cap) ∧ w'.ownsRow base 3 1 (.slice (some ⟨g, 0, none⟩) (i + (N.length - j)) cap) (i + (N.length - j)) (inC (N.take i ++ N.drop j)) ∧ w.grownBy w' (some g) := by
  obtain ⟨hxl, hh⟩ := id h
  rcases hh with ⟨hh, _⟩ | ⟨g', cap', cur, e, hb, hg, hnc, hcm, hcs, htk⟩
  · cases hh
  simp only [Value.slice.injEq, Option.some.injEq, Addr.mk.injEq] at e
  obtain ⟨⟨rfl, _⟩, _, rfl⟩ := e
  have hcm' : cap ≤ 9223372036854775807 := by unfold maxLen at hcm; exact hcm
  by_cases heq : i = j
  · subst heq
    refine (delZ_eq g cap i N.length w hj hN hcm' hnc).mono ?_
    rintro e w' ⟨rfl, rfl⟩
    rw [List.take_append_drop, show i + (N.length - i) = N.length by omega]
    exact ⟨rfl, h, ⟨rfl, rfl, rfl, Nat.le_refl _, fun _ _ _ => rfl⟩⟩
  · have hlt : i < j := by omega
    have hcell : ∀ t, t < cap * 1 → (w.cell? ⟨g, t, none⟩).isSome = true ∧ w.frozen? ⟨g, t, none⟩ = false := fun t ht => ⟨by rw [Nat.mul_one] at ht; simp [World.cell?, hg, hcs, ht], by simp [World.frozen?, hg]⟩
    have hat : ∀ t u, (inC N)[t]? = some u → w.cell? ⟨g, t, none⟩ = some u := fun t u hu => by
      have := h.cells (g := g) rfl t u hu
      rw [Addr.add_lit] at this
      simpa using this
    obtain ⟨i0, hi0, hz0, hz1, hz2⟩ := info_parts Tryz.info_int
    have hv : ∀ w, (zeroValue 3).run Tryz.prog w = .ok (.int .i64 0) w := fun w => by simp [zeroValue, typeInfo, hi0, hz0]
    obtain ⟨zs, hzs⟩ : ∃ zs, (Builtin.zeroCells #[.int .i64 0] (j - i)).toList = zs := ⟨_, rfl⟩
    have hzl : zs.length = (j - i) * 1 := by rw [← hzs]; simp [Builtin.zeroCells]
    have hz1c : ∀ u ∈ zs, u.oneCell' = true := by rw [← hzs]; exact zero_one1 _
    have hrow := deleted_row (size := 1) (by decide) hij hj hnc hcs htk zs hzl
    have hEN : inC (N.take i ++ N.drop j) = (inC N).take (i * 1) ++ (inC N).drop (j * 1) := inC_cut N i j (by omega) hj
    rw [hEN]
    obtain ⟨xs, hxs⟩ : ∃ xs, inC N = xs := ⟨_, rfl⟩
    have hx1 : ∀ u ∈ xs, u.oneCell' = true := by rw [← hxs]; exact inC_one N
    rw [hxs] at hxl htk hat hrow ⊢
    obtain ⟨n, hn⟩ : ∃ n, N.length = n := ⟨_, rfl⟩
    rw [hn] at hj hN hnc hxl htk hrow ⊢
    obtain ⟨m, hm⟩ : ∃ m, i + (n - j) = m := ⟨_, rfl⟩
    rw [hm] at hrow ⊢
    clear h hxs hn hEN N
    obtain ⟨news, hnews⟩ : ∃ news, xs.drop (j * 1) = news := ⟨_, rfl⟩
    have hnl : news.length = (n - j) * 1 := by rw [← hnews, List.length_drop, hxl, Nat.sub_mul]
    have hn1 : Hid (∀ u ∈ news, u.oneCell' = true) := fun u hu => by rw [← hnews] at hu; exact hx1 u (List.mem_of_mem_drop hu)
    obtain ⟨A, hA, hsrc⟩ : ∃ A : Addr, (if cap = j then some (⟨g, 0, none⟩ : Addr) else some ⟨g, j * 1, none⟩) = some A ∧ Hid (∀ t u, news[t]? = some u → w.drew.cell? (A.add t) = some u) := by
      by_cases hcj : cap = j
      · refine ⟨⟨g, 0, none⟩, by simp [hcj], fun t u hu => ?_⟩
        have h0 : news.length = 0 := by rw [hnl]; omega
        rw [List.length_eq_zero_iff.1 h0] at hu
        simp at hu
      · refine ⟨⟨g, j * 1, none⟩, by simp [hcj], fun t u hu => ?_⟩
        rw [Addr.add_lit]
        exact hat _ u (by rw [← hu, ← hnews, List.getElem?_drop])
    rw [hnews] at hrow ⊢
    have hsp : Hid (∀ t, t < news.length → (w.drew.cell? ⟨g, 0 + i * 1 + t, none⟩).isSome = true ∧ w.drew.frozen? ⟨g, 0 + i * 1 + t, none⟩ = false) := fun t ht => by
      rw [hnl] at ht
      exact hcell _ (by omega)
    have hW0 : w.drew.heap[g]? = some (.cells cur 3 (0, 0)) := hg
    have hW1 := setCells_blk news w.drew g (0 + i * 1) cur 3 hW0
    have hG1 : w.grownBy (w.drew.setCells g (0 + i * 1) news) (some g) := grown_trans (b := w.drew) ⟨rfl, rfl, rfl, Nat.le_refl _, fun _ _ _ => rfl⟩ (setCells_grown news w.drew g _)
    rw [Nat.zero_add] at hW1
    obtain ⟨W1, hWE⟩ : ∃ W1, w.drew.setCells g (0 + i * 1) news = W1 := ⟨_, rfl⟩
    have HWE : Hid (w.drew.setCells g (0 + i * 1) news = W1) := hWE
    rw [hWE] at hG1
    rw [Nat.zero_add] at hWE
    rw [hWE] at hW1
    have hmn : n - m = j - i := by omega
    have hcl : ∀ ty, (Builtin.clear_ #[66] ty #[.slice (some ⟨g, m * 1, none⟩) (n - m) (cap - m)]).run Tryz.prog W1 = .ok (.tuple #[]) (W1.setCells g (m * 1) zs) := fun ty =>
      run_clear_any W1 66 3 ty (.int .i64 0) Tryz.underlying66 hv g (m * 1) (n - m) (cap - m) (by omega) zs (by rw [hmn]; exact hzs) hz1c
        (fun t ht => by rw [hzl] at ht; simp only [World.cell?, hW1]; simp [setL_size, hcs]; omega) (fun t ht => by simp [World.frozen?, hW1])
    have HOUT : Hid ((W1.setCells g (m * 1) zs).ownsRow base 3 1 (.slice (some ⟨g, 0, none⟩) m cap) m (xs.take (i * 1) ++ news) ∧ w.grownBy (W1.setCells g (m * 1) zs) (some g)) := by
      refine ⟨⟨?_, .inr ⟨g, cap, _, rfl, hb, setCells_blk zs W1 g (m * 1) _ _ hW1, by omega, hcm, hrow.1, hrow.2⟩⟩, grown_trans hG1 (setCells_grown zs W1 g _)⟩
      rw [List.length_append, List.length_take, hxl, hnl, Nat.min_eq_left (Nat.mul_le_mul_right _ (by omega)), ← Nat.add_mul, hm]
    simp only [Nat.mul_one] at hA hcl HOUT
    have hmn2 : m ≤ n := by omega
    have hmc2 : m ≤ cap := by omega
    have hmc : ¬ cap = m := by omega
    have hic : i ≤ cap := by omega
    have hjc : j ≤ cap := by omega
    have hnl2 : Hid (news.length = (n - j) * 1) := hnl
    have HML : Hid (i + (n - j) = m) := hm
    have HRM : Hid (i + (n - j) ≤ cap) := by show _ ≤ _; omega
    clear hW1 hG1 hWE hrow hcell hat hzs hzl hz1c htk hcs hg hW0 hx1 hxl hnl hnews hb hcm hmn hv hm
    go_enter Tryz.func115, Tryz.ntmps115
    go_wp2_with fail
    go_region_law (refine step_append_room rfl (.tmp 22) (.tmp 25) 66 rfl 3 i0 1 Tryz.underlying66 hi0 hz1 g 0 i cap rfl A (n - j) (cap - j) news rfl hnl2.out hsrc.out hn1.out HRM.out hsp.out ?_; rw [HWE.out, HML.out])
    go_wp2
    go_ret
    exact ⟨rfl, by rw [Nat.mul_one]; exact HOUT.out.1, HOUT.out.2⟩
end Go.Proofs.YtdgpajdlomihaaaGreatDoor
