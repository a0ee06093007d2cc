/- Contracts of the law's SameInts (over two rows that calls made) and of knows: it answers true. No old memory is written. -/
import Derived.Test.YtocdifclkopbcaaPer
namespace Go.Proofs.Ytocdifclkopbcaa
open Go.RowKit Go.Lib

theorem drew_two (w : World) (q n : Nat) : (w.drewN q).drewN n = w.drewN (q + n) := by simp [World.drewN, Nat.add_assoc]
theorem own_cells {w : World} {base n : Nat} {e : TypeId} {v : Value} {l : List Nat} (h : w.ownsRow base e 1 v n (intCells l)) :
    l.length = n ∧ ∃ a cap, v = .slice a n cap ∧ ∀ i, i < n → ∃ g, a = some ⟨g, 0, none⟩ ∧ w.cell? ⟨g, i, none⟩ = some (.int .i64 ((l.getD i 0 : Nat) : Int)) := by
  have hl : l.length = n := by have := h.1; simpa [intCells] using this
  refine ⟨hl, ?_⟩
  obtain ⟨h0, h1⟩ := h
  rcases h1 with ⟨rfl, hn⟩ | ⟨g, cap, cur, rfl, r⟩
  · exact ⟨none, 0, by rw [hn], fun i hi => by omega⟩
  · refine ⟨some ⟨g, 0, none⟩, cap, rfl, fun i hi => ⟨g, rfl, ?_⟩⟩
    have hown : w.ownsRow base e 1 (.slice (some ⟨g, 0, none⟩) n cap) n (intCells l) := ⟨h0, .inr ⟨g, cap, cur, rfl, r⟩⟩
    rw [hown.cellAt i (by omega)]
    simp [intCells, hl, hi]

set_option maxHeartbeats 1000000 in
set_option maxRecDepth 100000 in
theorem sameInts_any (b1 b2 : Nat) (v1 v2 : Value) (xs ys : List Nat) (w : World) (h1 : w.ownsRow b1 3 1 v1 xs.length (intCells xs)) (h2 : w.ownsRow b2 3 1 v2 ys.length (intCells ys)) (hm1 : xs.length ≤ 9223372036854775806) :
    Calls Try.prog 29 #[v1, v2] w fun e w' => e = .returned (.bool (decide (xs = ys))) ∧ ∃ q, w' = w.drewN q := by
  obtain ⟨_, a1, c1, rfl, g1⟩ := own_cells h1
  obtain ⟨_, a2, c2, rfl, g2⟩ := own_cells h2
  have H1 : Hid _ := g1
  have H2 : Hid _ := g2
  clear h1 h2 g1 g2
  by_cases hl : xs.length = ys.length
  · have hb : ((xs.length : Int) != (ys.length : Int)) = false := by rw [bne_eq_false_iff_eq]; omega
    have HL : Hid (xs.length = ys.length) := hl
    clear hl
    go_enter Try.func29, Try.ntmps29
    go_wp2_with fail
    go_loopw [5] (fun vi wr => ∃ i q : Nat, vi = .int .i64 i ∧ i ≤ xs.length ∧ (∀ j, j < i → xs.getD j 0 = ys.getD j 0) ∧ wr = w.drewN q) (fun vi _ => xs.length - (intOf vi).toNat)
    case atStart => exact ⟨0, 0, rfl, Nat.zero_le _, fun j hj => by omega, rfl⟩
    case round =>
      obtain ⟨i, q, rfl, hi, hall, rfl⟩ := hrel
      have HA : Hid _ := hall
      clear hall
      by_cases hlt : i < xs.length
      · obtain ⟨ga, rfl, ca⟩ := H1.out i hlt
        obtain ⟨gb, rfl, cb⟩ := H2.out i (by have := HL.out; omega)
        have hlt2 : i < ys.length := by have := HL.out; omega
        obtain ⟨x, hx⟩ : ∃ x, xs.getD i 0 = x := ⟨_, rfl⟩
        obtain ⟨y, hy⟩ : ∃ y, ys.getD i 0 = y := ⟨_, rfl⟩
        rw [hx] at ca
        rw [hy] at cb
        have HX : Hid (xs.getD i 0 = x) := hx
        have HY : Hid (ys.getD i 0 = y) := hy
        clear hx hy
        by_cases he : x = y
        · have heb : ((x : Int) != (y : Int)) = false := by rw [bne_eq_false_iff_eq]; omega
          have HE : Hid (x = y) := he
          clear he
          go_wp2_with fail
          go_quiet (fail)
          go_wp2
          go_roundw
          case rel => exact ⟨i + 1, _, by go_num, by omega, fun j hj => by
            by_cases e : j = i
            · rw [e, HX.out, HY.out]; exact HE.out
            · exact HA.out j (by omega), rfl⟩
          case measure => simp [intOf]; omega
        · have heb : ((x : Int) != (y : Int)) = true := by rw [bne_iff_ne]; omega
          have HE : Hid (decide (xs = ys) = false) := by
            show decide (xs = ys) = false
            simp
            intro h
            apply he
            rw [← HX.out, ← HY.out, h]
          clear he
          go_wp2_with fail
          go_quiet (fail)
          go_wp2
          go_ret
          exact ⟨ret_bool HE.out.symm, q + nq, drew_two w q nq⟩
      · have HE : Hid (decide (xs = ys) = true) := by
          show decide (xs = ys) = true
          simp
          apply List.ext_getElem?
          intro j
          by_cases hj : j < xs.length
          · have := HA.out j (by omega)
            have hj2 : j < ys.length := by have := HL.out; omega
            simpa [List.getD_eq_getElem?_getD, hj, hj2] using this
          · rw [List.getElem?_eq_none (by omega), List.getElem?_eq_none (by have := HL.out; omega)]
        go_wp2
        go_ret
        exact ⟨ret_bool HE.out.symm, _, rfl⟩
  · have hb : ((xs.length : Int) != (ys.length : Int)) = true := by rw [bne_iff_ne]; omega
    have HR : Hid (decide (xs = ys) = false) := by show decide (xs = ys) = false; simp; intro h; exact hl (by rw [h])
    clear hl
    go_enter Try.func29, Try.ntmps29
    go_wp2
    go_ret
    exact ⟨ret_bool HR.out.symm, 0, rfl⟩

theorem nth25 : (nthB 2 5).length ≤ 4096 ∧ nthW 2 5 = [98, 97] := by decide +kernel
theorem chk_abab : chk 2 ⟨#[97, 98, 97, 98]⟩ = 0 := by decide +kernel
theorem pers_abab : persA 2 ⟨#[97, 98, 97, 98]⟩ = [2, 4] := by decide +kernel

set_option maxHeartbeats 1000000 in
set_option maxRecDepth 100000 in
theorem knows_any (w : World) :
    Calls Try.prog 14 #[] w fun e w' => e = .returned (.bool true) ∧ Below w.heap.size w w' := by
  have HN : Hid _ := nth25
  have HC : Hid _ := chk_abab
  have HP : Hid _ := pers_abab
  go_enter Try.func14, Try.ntmps14
  go_wp2_with fail
  refine (nth_any 2 5 _ (by omega) (by omega) (by omega)).mono ?_
  rintro e w1 ⟨h, b1⟩
  rcases h with ⟨_, rfl⟩ | ⟨h, _⟩
  · rw [HN.out.2]
    go_wp2_with fail
    refine (periods_any 2 _ _ (by decide)).mono ?_
    rintro e w2 ⟨v, rfl, hown, b2⟩
    rw [HC.out]
    rw [HP.out] at hown
    go_wp2_with (first | (go_at_call 11; refine (num_any _ _).mono ?_; rintro e w3 ⟨rfl, rfl⟩) | fail)
    refine (sameInts_any w1.heap.size w3.heap.size v _ [2, 4] [2, 4] _ (hown.alloc _) (World.ownsRow_lit w3 #[Value.int .i64 2, Value.int .i64 4] 2 (Nat.le_refl _) (by decide) rfl) (by decide)).mono ?_
    rintro e w4 ⟨rfl, q, rfl⟩
    go_wp2
    go_ret
    exact ⟨rfl, below_drewN ((b1.trans (b2.mono b1.size)).alloc (Nat.le_trans b1.size b2.size) _) q⟩
  · exact absurd HN.out.1 (by omega)

end Go.Proofs.Ytocdifclkopbcaa
