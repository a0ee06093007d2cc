/- The document's Parse: it answers what the program's Parse answers. -/
import Derived.Test.YtjonlmafhijcoaaDoorVo
namespace Go.Proofs.YtjonlmafhijcoaaDoor
open Go Go.RowKit
set_option linter.unusedVariables false

set_option maxHeartbeats 400000 in
set_option maxRecDepth 100000 in
theorem rletters_any (k : Int) (w : World) :
    Calls Tryd.prog 22 #[.int .i64 k] w fun e w' => e = .returned (.int .i64 (if k < 1 ∨ 8 < k then 20 else 0)) ∧ w' = w := by
  by_cases hk1 : k < 1
  · rw [if_pos (.inl hk1)]
    go_enter Tryd.func22, Tryd.ntmps22
    go_wp2_with fail
    go_ret
    exact ⟨rfl, rfl⟩
  by_cases hk8 : 8 < k
  · rw [if_pos (.inr hk8)]
    go_enter Tryd.func22, Tryd.ntmps22
    go_wp2_with fail
    go_ret
    exact ⟨rfl, rfl⟩
  rw [if_neg (by omega)]
  go_enter Tryd.func22, Tryd.ntmps22
  go_wp2_with fail
  go_ret
  exact ⟨rfl, rfl⟩

theorem FF_zero (k : Int) (tx : ByteArray) : parseS k tx = FF k tx 0 (true, [], []) := by
  unfold FF parseS; rw [List.drop_zero]
theorem read_bad {k : Int} {tx : ByteArray} {z : Nat} (h : Bads k tx 1 0 z) : parseS k tx = .inl z := by
  rw [FF_zero]; exact h [] [] (fun _ => by show (0 : Nat) < 1; decide)
theorem read_stop {k : Int} {tx : ByteArray} {q : Nat} {ns : List Nd} (h : Fine k tx 1 0 ns q) (hs : Skips tx q q) (hst : Stop k 1 (sgn tx q)) (hq : q < tx.size) : parseS k tx = .inl q := by
  obtain ⟨N1, T1, e, r1, _⟩ := h [] [] (fun _ => by show (0 : Nat) < 1; decide)
  have h1 := r1 1 (by decide) (Nat.le_refl _)
  rw [settle_stay (T := []) (show (0 : Nat) < 1 by decide)] at h1
  rw [FF_zero, e]
  by_cases hc : sgn tx q = 41
  · refine FF_stuck hs hq ?_
    rw [hc]
    show followS k 41 N1 T1 = none
    simp [followS, h1]
  · exact FF_stuck hs hq (stop_none hst hc _ _)
theorem read_end {k : Int} {tx : ByteArray} {ns : List Nd} (h : Fine k tx 1 0 ns tx.size) : parseS k tx = .inr ns := by
  obtain ⟨N1, T1, e, r1, _⟩ := h [] [] (fun _ => by show (0 : Nat) < 1; decide)
  have h1 := r1 1 (by decide) (Nat.le_refl _)
  rw [settle_stay (T := []) (show (0 : Nat) < 1 by decide)] at h1
  rw [FF_zero, e, FF_end]
  simp [endS, h1]

set_option maxHeartbeats 4000000 in
set_option maxRecDepth 100000 in
theorem rparse_any (k : Int) (tx : ByteArray) (hx : tx.size ≤ 9223372036854775807) (w : World) :
    Calls Tryd.prog 10 #[.int .i64 k, .string tx] w fun e w' => PQ k tx w e w' := by
  by_cases hk : k < 1 ∨ 8 < k
  · have HE : Hid (pcode k tx = (20, [])) := by show _ = _; rw [pcode, if_pos hk]
    have HP : Hid (pplace k tx = 0) := by show _ = _; rw [pplace, if_pos hk]
    go_enter Tryd.func10, Tryd.ntmps10
    go_wp2_with fail
    refine (rletters_any k _).mono ?_
    rintro e w1 ⟨rfl, rfl⟩
    rw [if_pos hk]
    clear hk
    go_wp2_with fail
    go_ret3
    exact ⟨.slice none 0 0, by rw [HE.out, HP.out]; rfl, by rw [HE.out]; exact World.ownsRow_nil _ _ _ _, Below.refl _ _⟩
  by_cases hs : 1000 < tx.size
  · have HE : Hid (pcode k tx = (40, [])) := by show _ = _; rw [pcode, if_neg hk, if_pos hs]
    have HP : Hid (pplace k tx = 0) := by show _ = _; rw [pplace, if_neg hk, if_pos hs]
    have hsI : (1000 : Int) < tx.size := by omega
    go_enter Tryd.func10, Tryd.ntmps10
    go_wp2_with fail
    refine (rletters_any k _).mono ?_
    rintro e w1 ⟨rfl, rfl⟩
    rw [if_neg hk]
    clear hk
    go_wp2_with fail
    go_ret3
    exact ⟨.slice none 0 0, by rw [HE.out, HP.out]; rfl, by rw [HE.out]; exact World.ownsRow_nil _ _ _ _, Below.refl _ _⟩
  have hkk : 1 ≤ k ∧ k ≤ 8 := by omega
  have hs' : tx.size ≤ 1000 := by omega
  have HE1 : Hid (∀ z, parseS k tx = .inl z → pcode k tx = (41, []) ∧ pplace k tx = z) := fun z h => by
    rw [pcode, pplace, if_neg hk, if_neg hs, if_neg hk, if_neg hs, h]
    exact ⟨rfl, rfl⟩
  have HE2 : Hid (∀ ns, parseS k tx = .inr ns → pcode k tx = (if checkV k ns = 0 then (0, ns) else (checkV k ns, [])) ∧ pplace k tx = 0) := fun z h => by
    rw [pcode, pplace, if_neg hk, if_neg hs, if_neg hk, if_neg hs, h]
    exact ⟨rfl, rfl⟩
  have hsI : ¬ (1000 : Int) < tx.size := by omega
  go_enter Tryd.func10, Tryd.ntmps10
  go_wp2_with fail
  refine (rletters_any k _).mono ?_
  rintro e w1 ⟨rfl, rfl⟩
  rw [if_neg hk]
  clear hk hs hx
  go_wp2_with fail
  have hR0 : RD (w1.alloc (.cells #[.int .i64 k, .string tx, .int .i64 0, .int .i64 (-1)] 50)) w1.heap.size k tx 0 (-1) := heap_alloc_new w1 _
  have hsz0 : (w1.alloc (.cells #[.int .i64 k, .string tx, .int .i64 0, .int .i64 (-1)] 50)).heap.size = w1.heap.size + 1 := by simp
  have hB0 : Below w1.heap.size w1 (w1.alloc (.cells #[.int .i64 k, .string tx, .int .i64 0, .int .i64 (-1)] 50)) := (Below.refl _ _).alloc (Nat.le_refl _) _
  generalize w1.alloc (.cells #[.int .i64 k, .string tx, .int .i64 0, .int .i64 (-1)] 50) = w2 at hR0 hsz0 hB0 ⊢
  refine (union_at hkk hs' (tx.size + 1) 0 (Nat.zero_le _) (by omega) w2 w1.heap.size hR0).mono ?_
  rintro e w3 ⟨u, ns, q, bad, rfl, hr3, hk3, ho3, hl3⟩
  have HR3 : Hid (RD w3 w1.heap.size k tx q bad) := hr3
  have HK3 : Hid (RK w1.heap.size w2 w3) := hk3
  have HO3 : Hid (w3.ownsRow w2.heap.size 56 2 u ns.length (ndC ns)) := ho3
  have HB0 : Hid (Below w1.heap.size w1 w2) := hB0
  obtain ⟨_, hq, hl4⟩ := hl3
  have HBW : ∀ {w4 : World}, RK w1.heap.size w2 w4 → Below w1.heap.size w1 w4 := fun {w4} h =>
    HB0.out.trans ⟨h.os, h.tape, h.output, h.size, fun j hj => h.block j (by omega) (by omega)⟩
  obtain ⟨c0, c1, c2, c3⟩ := hr3.cells
  clear hr3 hk3 ho3 hB0 hR0
  rcases hl4 with ⟨rfl, hlen, hfine, hst⟩ | ⟨z, rfl, hlen, hbad⟩
  · obtain ⟨hsk, hstop⟩ := hst rfl
    have HF : Hid (Fine k tx 1 0 ns q) := hfine
    have HSK : Hid (Skips tx q q) := hsk
    have HST : Hid (Stop k 1 (sgn tx q)) := hstop
    clear hst hfine hsk hstop
    go_wp2_with fail
    refine (next_any _ w1.heap.size k tx q (-1) HR3.out hq hs').mono ?_
    rintro e w4 ⟨q', hsk4, rfl, hr4, hk4⟩
    obtain rfl : q = q' := (HSK.out.only hsk4).symm
    have HR4 : Hid (RD w4 w1.heap.size k tx q (-1)) := hr4
    have HK4 : Hid (RK w1.heap.size w2 w4) := HK3.out.trans hk4
    have HO4 : Hid (w4.ownsRow w2.heap.size 56 2 u ns.length (ndC ns)) := hk4.own HO3.out (by omega)
    obtain ⟨d0, d1, d2, d3⟩ := hr4.cells
    clear hr4 hk4 hsk4 c0 c1 c2 c3 HK3 HR3 HO3
    by_cases hlt : q < tx.size
    · have hE := HE1.out q (read_stop HF.out HSK.out HST.out hlt)
      have HEE : Hid (pcode k tx = (41, []) ∧ pplace k tx = q) := hE
      have hltI : (q : Int) < tx.size := by omega
      clear hE
      obtain ⟨c, hc⟩ : ∃ c, sgn tx q = c := ⟨_, rfl⟩
      rw [hc]
      have fin : ∀ {w5 : World}, RK w1.heap.size w2 w5 → PQ k tx w1 (.returned (.tuple #[.slice none 0 0, .int .i64 (q : Int), .int .i64 41])) w5 := fun {w5} h =>
        ⟨.slice none 0 0, by rw [HEE.out.1, HEE.out.2], by rw [HEE.out.1]; exact World.ownsRow_nil _ _ _ _, HBW h⟩
      have FIN : Hid (∀ {w5 : World}, RK w1.heap.size w2 w5 → PQ k tx w1 (.returned (.tuple #[.slice none 0 0, .int .i64 (q : Int), .int .i64 41])) w5) := fin
      clear fin hc
      by_cases hc0 : c = 0
      · subst hc0
        go_wp2_with fail
        refine (broken_any _ w1.heap.size k tx q HR4.out hq hs').mono ?_
        rintro e w5 ⟨q', hsk5, rfl, hr5, hk5⟩
        obtain rfl : q = q' := (HSK.out.only hsk5).symm
        have HK5 : Hid (RK w1.heap.size w2 w5) := HK4.out.trans hk5
        obtain ⟨e0, e1, e2, e3⟩ := hr5.cells
        clear hr5 hk5 hsk5 d0 d1 d2 d3
        go_wp2_with fail
        go_region
        go_wp2_with fail
        go_ret3
        exact FIN.out HK5.out.drew
      · have hcb : (c != 0) = true := by simpa using hc0
        go_wp2_with fail
        refine (broken_any _ w1.heap.size k tx q HR4.out hq hs').mono ?_
        rintro e w5 ⟨q', hsk5, rfl, hr5, hk5⟩
        obtain rfl : q = q' := (HSK.out.only hsk5).symm
        have HK5 : Hid (RK w1.heap.size w2 w5) := HK4.out.trans hk5
        obtain ⟨e0, e1, e2, e3⟩ := hr5.cells
        clear hr5 hk5 hsk5 d0 d1 d2 d3
        go_wp2_with fail
        go_region
        go_wp2_with fail
        go_ret3
        exact FIN.out HK5.out.drew
    · obtain rfl : q = tx.size := by omega
      have hps := read_end HF.out
      have hE := HE2.out ns hps
      have hC := check_read hkk hps (by omega)
      have HEE : Hid (pcode k tx = (if checkV k ns = 0 then (0, ns) else (checkV k ns, [])) ∧ pplace k tx = 0) := hE
      have HC : Hid (wrong ns = 0 ∧ checkV k ns = if 128 < (heavyN (fun _ => 1) ns).getD 0 0 then 31 else 0) := hC
      have hs0 : sgn tx tx.size = 0 := by rw [sgn, dif_neg (by omega)]
      rw [hs0]
      clear hE hC hps hs0
      have hltI : ¬ (tx.size : Int) < tx.size := by omega
      go_wp2_with fail
      refine (rDepth_any u ns _ (own_nreads HO4.out) (by omega)).mono ?_
      rintro e w5 ⟨rfl, hb5⟩
      rw [if_pos HC.out.1, HC.out.1]
      have HK5 : Hid (RK w1.heap.size w2 w5) := HK4.out.trans (RK.of hb5)
      have HO5 : Hid (w5.ownsRow w2.heap.size 56 2 u ns.length (ndC ns)) := own_below HO4.out hb5
      obtain ⟨dp, hdp⟩ : ∃ dp, (heavyN (fun _ => 1) ns).getD 0 0 = dp := ⟨_, rfl⟩
      have HD : Hid ((heavyN (fun _ => 1) ns).getD 0 0 = dp) := hdp
      rw [hdp]
      clear hb5 hdp d0 d1 d2 d3
      by_cases h128 : 128 < dp
      · have h128I : (128 : Int) < dp := by omega
        have hcv : checkV k ns = 31 := by rw [HC.out.2, HD.out, if_pos h128]
        have HPC : Hid (pcode k tx = (31, [])) := by show _ = _; rw [HEE.out.1, hcv]; rfl
        clear hcv
        go_wp2_with fail
        go_ret3
        exact ⟨.slice none 0 0, by rw [HPC.out, HEE.out.2]; rfl, by rw [HPC.out]; exact World.ownsRow_nil _ _ _ _, HBW HK5.out⟩
      · have h128I : ¬ (128 : Int) < dp := by omega
        have hcv : checkV k ns = 0 := by rw [HC.out.2, HD.out, if_neg h128]
        have HPC : Hid (pcode k tx = (0, ns)) := by show _ = _; rw [HEE.out.1, if_pos hcv]
        clear hcv
        go_wp2_with fail
        go_ret3
        exact ⟨u, by rw [HPC.out, HEE.out.2]; rfl, by rw [HPC.out]; exact own_mono HO5.out (by omega), HBW HK5.out⟩
  · have hzI : ¬ (z : Int) < 0 := by omega
    have hzI' : (0 : Int) ≤ z := by omega
    have hE := HE1.out z (read_bad hbad)
    have HEE : Hid (pcode k tx = (41, []) ∧ pplace k tx = z) := hE
    clear hE hbad
    go_wp2_with fail
    go_region
    go_wp2_with fail
    go_ret3
    exact ⟨.slice none 0 0, by rw [HEE.out.1, HEE.out.2]; rfl, by rw [HEE.out.1]; exact World.ownsRow_nil _ _ _ _, HBW HK3.out.drew⟩
end Go.Proofs.YtjonlmafhijcoaaDoor
