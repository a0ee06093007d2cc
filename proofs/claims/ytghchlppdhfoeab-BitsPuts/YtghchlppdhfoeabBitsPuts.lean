/- Proved: eggboxlaw02.BitsPuts answers true at every set, every two places and every two worths (P2.12): what bits.Put puts is there and all else as it was, the old worth put back makes the old set, the field of width 1 is bits.Has, and fields that do not meet can be put in any order; its arguments read behind the call as before. -/
import Derived.Test.YtghchlppdhfoeabBp
import Derived.Test.YtghchlppdhfoeabBh
import Derived.Test.YtghchlppdhfoeabBk
import Derived.ProofKit
import Derived.OpenShut
import Derived.ShutString
import Derived.ChangeOld
import Derived.JoinedCond
namespace Go.Proofs.Ytghchlppdhfoeab.bitsPuts
open Go.ChangeShapes Go.WideShapes Go.ChangeAt Go.RowKit
set_option linter.unusedVariables false

theorem putE_zero {a b : Int} {v : Nat} (h : putE a b v = 0) : isF a b = true ∧ v < 2 ^ b.toNat := by
  unfold putE at h
  by_cases h1 : isF a b = true
  · rw [if_pos h1] at h
    by_cases h2 : v < 2 ^ b.toNat
    · exact ⟨h1, h2⟩
    · rw [if_neg h2] at h; omega
  · rw [if_neg h1] at h; omega
theorem putN_zero {N : Nat} {a b : Int} {v : Nat} (h : ¬ putE a b v = 0) : putN N a b v = 0 := by
  unfold putE at h
  unfold putN
  by_cases h1 : isF a b = true
  · rw [if_pos h1] at h ⊢
    by_cases h2 : v < 2 ^ b.toNat
    · rw [if_pos h2] at h; omega
    · rw [if_neg h2]
  · rw [if_neg h1]
/-- What stands of a field that is put. -/
structure GoodPut (N : Nat) (a b : Int) (v A old : Nat) : Prop where
  put : putN N a b v = A
  err : putE a b v = 0
  was : fieldN N a b = old
  wasLt : old < 18446744073709551616
  fE : fieldE a b = 0
  fld : fieldN A a b = v
  back : putN A a b old = N
  backE : putE a b old = 0
  oneE : fieldE a 1 = 0
  one : (((fieldN A a 1 : Nat) : Int) == 1) = hasN A a
theorem fits_put {N a b v : Nat} (hv : v < 2 ^ b) (h : a + b ≤ 512) (hN : Fits N) : Fits (putV N a b v) := by
  intro i hi
  rw [testBit_putV _ _ _ _ _ hv, if_neg (by omega), hN i hi]
theorem good {N : Nat} {a b : Int} {v : Nat} (h : putE a b v = 0) : ∃ A old, GoodPut N a b v A old := by
  obtain ⟨hF, hv⟩ := putE_zero h
  have hd : 1 ≤ b ∧ b ≤ 64 ∧ 0 ≤ a ∧ a ≤ 512 - b := of_decide_eq_true hF
  obtain ⟨x, rfl⟩ : ∃ m : Nat, a = m := ⟨a.toNat, by omega⟩
  obtain ⟨y, rfl⟩ : ∃ m : Nat, b = m := ⟨b.toNat, by omega⟩
  rw [Int.toNat_natCast] at hv
  have hF1 : isF (x : Int) (1 : Nat) = true := decide_eq_true (by omega)
  have hwl : N / 2 ^ x % 2 ^ y < 2 ^ y := Nat.mod_lt _ (Nat.two_pow_pos _)
  refine ⟨putV N x y v, N / 2 ^ x % 2 ^ y, (put_good hF hv).1, h, (field_good hF).1, field_lt N x (by omega), (field_good (N := N) hF).2, ?_, ?_, (put_good (N := N) hF hwl).2, (field_good (N := N) hF1).2, ?_⟩
  · rw [(field_good hF).1]
    apply Nat.eq_of_testBit_eq
    intro i
    rw [Nat.testBit_mod_two_pow, Nat.testBit_div_two_pow, testBit_putV _ _ _ _ _ hv]
    by_cases hi : i < y
    · rw [if_pos (by omega), decide_eq_true hi, Bool.true_and]
      congr 1
      omega
    · rw [decide_eq_false hi, Bool.false_and]
      exact (Nat.testBit_lt_two_pow (Nat.lt_of_lt_of_le hv (Nat.pow_le_pow_right (by decide) (by omega)))).symm
  · rw [(put_good hF hwl).1]
    apply Nat.eq_of_testBit_eq
    intro i
    rw [testBit_putV _ _ _ _ _ hwl, testBit_putV _ _ _ _ _ hv]
    by_cases hi : x ≤ i ∧ i < x + y
    · rw [if_pos hi, Nat.testBit_mod_two_pow, Nat.testBit_div_two_pow, decide_eq_true (by omega), Bool.true_and]
      congr 1
      omega
    · rw [if_neg hi, if_neg hi]
  · have e := (field_good (N := putV N x y v) hF1).1
    rw [show ((1 : Nat) : Int) = 1 from rfl] at e
    rw [e]
    unfold hasN
    rw [decide_eq_true (by omega), Bool.true_and, Int.toNat_natCast, Nat.testBit_eq_decide_div_mod_eq, Nat.pow_one, Bool.eq_iff_iff]
    simp only [beq_iff_eq, decide_eq_true_eq]
    omega
/-- Fields that do not meet. -/
theorem swap {N : Nat} {a b c d : Int} {v u A : Nat} (hA : putN N a b v = A) (h1 : putE a b v = 0) (h2 : putE c d u = 0) (hm : ¬ (c < a + b ∧ a < c + d)) :
    ∃ B C, putN A c d u = B ∧ putN N c d u = C ∧ putN C a b v = B := by
  obtain ⟨hF, hv⟩ := putE_zero h1
  obtain ⟨hG, hu⟩ := putE_zero h2
  have hd : 1 ≤ b ∧ b ≤ 64 ∧ 0 ≤ a ∧ a ≤ 512 - b := of_decide_eq_true hF
  have he : 1 ≤ d ∧ d ≤ 64 ∧ 0 ≤ c ∧ c ≤ 512 - d := of_decide_eq_true hG
  obtain ⟨x, rfl⟩ : ∃ m : Nat, a = m := ⟨a.toNat, by omega⟩
  obtain ⟨y, rfl⟩ : ∃ m : Nat, b = m := ⟨b.toNat, by omega⟩
  obtain ⟨s, rfl⟩ : ∃ m : Nat, c = m := ⟨c.toNat, by omega⟩
  obtain ⟨t, rfl⟩ : ∃ m : Nat, d = m := ⟨d.toNat, by omega⟩
  rw [Int.toNat_natCast] at hv hu
  refine ⟨_, _, rfl, rfl, ?_⟩
  rw [← hA, (put_good hF hv).1, (put_good hF hv).1, (put_good hG hu).1, (put_good hG hu).1]
  apply Nat.eq_of_testBit_eq
  intro i
  rw [testBit_putV _ _ _ _ _ hv, testBit_putV _ _ _ _ _ hu, testBit_putV _ _ _ _ _ hu, testBit_putV _ _ _ _ _ hv]
  by_cases h3 : x ≤ i ∧ i < x + y
  · rw [if_pos h3, if_pos h3, if_neg (by omega)]
  · rw [if_neg h3, if_neg h3]
theorem start3 {w w1 : World} {S P Q : Array Value} {s p q : TypeId} (h : Below (((w.alloc (.cells S s)).alloc (.cells P p)).alloc (.cells Q q)).heap.size (((w.alloc (.cells S s)).alloc (.cells P p)).alloc (.cells Q q)) w1) :
    RowAt w1 w.heap.size S ∧ RowAt w1 (w.heap.size + 1) P ∧ RowAt w1 (w.heap.size + 1 + 1) Q := by
  refine ⟨(((RowAt.last w S s).alloc _).alloc _).stay h, ?_, ?_⟩
  · have := ((RowAt.last (w.alloc (.cells S s)) P p).alloc (.cells Q q)).stay h
    simpa using this
  · have := (RowAt.last ((w.alloc (.cells S s)).alloc (.cells P p)) Q q).stay h
    simpa using this

set_option maxHeartbeats 8000000 in
set_option maxRecDepth 100000 in
theorem walk (N : Nat) (pa pb qa qb : Int) (v u : Nat) (_hN : Fits N) (hv : v < 18446744073709551616) (hu : u < 18446744073709551616) (w : World) :
    Calls Try.prog 4 #[setV N, placeV pa pb, placeV qa qb, .int .u64 v, .int .u64 u] w fun e w' => e = .returned (.bool true) ∧ Below w.heap.size w w' := by
  by_cases hE : putE pa pb v = 0
  · obtain ⟨A, old, hG⟩ := good (N := N) hE
    have HG : Hid _ := hG
    have hone := hG.one
    have hwl := hG.wasLt
    have HOne : Hid _ := hone
    have hbN := eq_same (word N)
    unfold setV cellsF placeV
    unfold cellsF at hbN
    clear hG hE hone
    go_enter Try.func4, Try.ntmps4
    go_wp2_with (first
      | (go_at_call 10; refine (num_any _ _).mono ?_; rintro e wn ⟨rfl, rfl⟩)
      | (go_at_call_of 9 (Value.int IntKind.u64 ((word N 0 : Nat) : Int)); refine (put_any N pa pb v hv _).mono ?_; rintro e w1 ⟨rfl, hb1⟩; rw [HG.out.put, HG.out.err]; unfold setV cellsF; obtain ⟨rs, rp, rq⟩ := start3 hb1; have cs := RowAt.cell rs; have cp := RowAt.cell rp; have cq := RowAt.cell rq; have ds := RowAt.cellA rs; have dp := RowAt.cellA rp; have dq := RowAt.cellA rq))
    go_wp2_with (first
      | (go_at_call 10; refine (num_any _ _).mono ?_; rintro e wn ⟨rfl, rfl⟩)
      | (go_at_call_of 11 (Value.int IntKind.u64 ((word A 0 : Nat) : Int)); refine (field_any A pa pb _).mono ?_; rintro e w2 ⟨rfl, hb2⟩; rw [HG.out.fld, HG.out.fE]; have rs := RowAt.step rs hb2; have rp := RowAt.step rp hb2; have rq := RowAt.step rq hb2; have ra := RowAt.new hb2; have cs := RowAt.cell rs; have ds := RowAt.cellA rs; have cp := RowAt.cell rp; have dp := RowAt.cellA rp; have cq := RowAt.cell rq; have dq := RowAt.cellA rq; have ca := RowAt.cell ra; have da := RowAt.cellA ra))
    go_wp2_with (first
      | (go_at_call 10; refine (num_any _ _).mono ?_; rintro e wn ⟨rfl, rfl⟩)
      | (go_at_call_of 11 (Value.int IntKind.u64 ((word N 0 : Nat) : Int)); refine (field_any N pa pb _).mono ?_; rintro e w3 ⟨rfl, hb3⟩; rw [HG.out.was, HG.out.fE]; have rs := RowAt.stay rs hb3; have rp := RowAt.stay rp hb3; have rq := RowAt.stay rq hb3; have ra := RowAt.stay ra hb3; have cs := RowAt.cell rs; have ds := RowAt.cellA rs; have cp := RowAt.cell rp; have dp := RowAt.cellA rp; have cq := RowAt.cell rq; have dq := RowAt.cellA rq; have ca := RowAt.cell ra; have da := RowAt.cellA ra))
    go_wp2_with (first
      | (go_at_call 10; refine (num_any _ _).mono ?_; rintro e wn ⟨rfl, rfl⟩)
      | (go_at_call_of 9 (Value.int IntKind.u64 ((word A 0 : Nat) : Int)); refine (put_any A pa pb old hwl _).mono ?_; rintro e w4 ⟨rfl, hb4⟩; rw [HG.out.back, HG.out.backE]; unfold setV cellsF; have rs := RowAt.stay rs hb4; have rp := RowAt.stay rp hb4; have rq := RowAt.stay rq hb4; have ra := RowAt.stay ra hb4; have cs := RowAt.cell rs; have ds := RowAt.cellA rs; have cp := RowAt.cell rp; have dp := RowAt.cellA rp; have cq := RowAt.cell rq; have dq := RowAt.cellA rq; have ca := RowAt.cell ra; have da := RowAt.cellA ra))
    go_wp2_with (first
      | (go_at_call 10; refine (num_any _ _).mono ?_; rintro e wn ⟨rfl, rfl⟩)
      | (go_at_call_of 11 (Value.int IntKind.u64 ((word A 0 : Nat) : Int)); refine (field_any A pa 1 _).mono ?_; rintro e w5 ⟨rfl, hb5⟩; rw [HG.out.oneE]; have rs := RowAt.step rs hb5; have rp := RowAt.step rp hb5; have rq := RowAt.step rq hb5; have ra := RowAt.step ra hb5; have cs := RowAt.cell rs; have ds := RowAt.cellA rs; have cp := RowAt.cell rp; have dp := RowAt.cellA rp; have cq := RowAt.cell rq; have dq := RowAt.cellA rq; have ca := RowAt.cell ra; have da := RowAt.cellA ra))
    go_wp2_with (first
      | (go_at_call 10; refine (num_any _ _).mono ?_; rintro e wn ⟨rfl, rfl⟩)
      | (go_at_call_of 12 (Value.int IntKind.u64 ((word A 0 : Nat) : Int)); refine (has_any A pa _).mono ?_; rintro e w6 ⟨rfl, hb6⟩; rw [← HOne.out]; have rs := RowAt.stay rs hb6; have rp := RowAt.stay rp hb6; have rq := RowAt.stay rq hb6; have ra := RowAt.stay ra hb6; have cs := RowAt.cell rs; have ds := RowAt.cellA rs; have cp := RowAt.cell rp; have dp := RowAt.cellA rp; have cq := RowAt.cell rq; have dq := RowAt.cellA rq; have ca := RowAt.cell ra; have da := RowAt.cellA ra))
    have B6 : Hid (Below w.heap.size w w6) := go_on (go_new (go_on (go_on (go_new (go_on ((((Below.refl _ _).alloc (Nat.le_refl _) _).alloc (by simp) _).alloc (by simp; omega) _) hb1) hb2) hb3) hb4) hb5) hb6
    clear hb1 hb2 hb3 hb4 hb5 hb6 hbN
    by_cases hE2 : putE qa qb u = 0
    · have hd : 1 ≤ pb ∧ pb ≤ 64 ∧ 0 ≤ pa ∧ pa ≤ 512 - pb := of_decide_eq_true (putE_zero HG.out.err).1
      have he : 1 ≤ qb ∧ qb ≤ 64 ∧ 0 ≤ qa ∧ qa ≤ 512 - qb := of_decide_eq_true (putE_zero hE2).1
      obtain ⟨d1, d2, d3, d4⟩ := hd
      obtain ⟨e1, e2, e3, e4⟩ := he
      by_cases hm : qa < pa + pb ∧ pa < qa + qb
      · obtain ⟨m1, m2⟩ := hm
        go_wp2_with (first
          | (go_at_call 10; refine (num_any _ _).mono ?_; rintro e wn ⟨rfl, rfl⟩)
          | (go_at_call_of 9 (Value.int IntKind.u64 ((word A 0 : Nat) : Int)); refine (put_any A qa qb u hu _).mono ?_; rintro e w7 ⟨rfl, hb7⟩; rw [hE2]; unfold setV cellsF; have rs := RowAt.stay rs hb7; have rp := RowAt.stay rp hb7; have rq := RowAt.stay rq hb7; have ra := RowAt.stay ra hb7; have cs := RowAt.cell rs; have ds := RowAt.cellA rs; have cp := RowAt.cell rp; have dp := RowAt.cellA rp; have cq := RowAt.cell rq; have dq := RowAt.cellA rq; have ca := RowAt.cell ra; have da := RowAt.cellA ra)
          | (go_at_call 6; refine (live_any _).mono ?_; rintro e wl ⟨rfl, hbl⟩))
        go_ret
        exact ⟨rfl, go_new (go_on B6.out hb7) hbl⟩
      · obtain ⟨B, C, hB, hC, hD⟩ := swap HG.out.put HG.out.err hE2 hm
        have hbB := eq_same (word B)
        unfold cellsF at hbB
        have hmd : (decide (qa < pa + pb) && decide (pa < qa + qb)) = false := by
          rw [Bool.and_eq_false_iff, decide_eq_false_iff_not, decide_eq_false_iff_not]
          omega
        clear hm
        by_cases m1 : qa < pa + pb
        · have m2 : ¬ pa < qa + qb := by
            intro h
            simp [m1, h] at hmd
          clear hmd
          go_wp2_with (first
            | (go_at_call 10; refine (num_any _ _).mono ?_; rintro e wn ⟨rfl, rfl⟩)
            | (go_at_call_of 9 (Value.int IntKind.u64 ((word A 0 : Nat) : Int)); refine (put_any A qa qb u hu _).mono ?_; rintro e w7 ⟨rfl, hb7⟩; rw [hB, hE2]; unfold setV cellsF; have rs := RowAt.stay rs hb7; have rp := RowAt.stay rp hb7; have rq := RowAt.stay rq hb7; have ra := RowAt.stay ra hb7; have cs := RowAt.cell rs; have ds := RowAt.cellA rs; have cp := RowAt.cell rp; have dp := RowAt.cellA rp; have cq := RowAt.cell rq; have dq := RowAt.cellA rq; have ca := RowAt.cell ra; have da := RowAt.cellA ra)
            | (go_at_call_of 9 (Value.int IntKind.u64 ((word N 0 : Nat) : Int)); refine (put_any N qa qb u hu _).mono ?_; rintro e w8 ⟨rfl, hb8⟩; rw [hC, hE2]; unfold setV cellsF; have rs := RowAt.step rs hb8; have rp := RowAt.step rp hb8; have rq := RowAt.step rq hb8; have ra := RowAt.step ra hb8; have rb := RowAt.new hb8; have cs := RowAt.cell rs; have ds := RowAt.cellA rs; have cp := RowAt.cell rp; have dp := RowAt.cellA rp; have cq := RowAt.cell rq; have dq := RowAt.cellA rq; have ca := RowAt.cell ra; have da := RowAt.cellA ra; have cb := RowAt.cell rb; have db := RowAt.cellA rb)
            | (go_at_call_of 9 (Value.int IntKind.u64 ((word C 0 : Nat) : Int)); refine (put_any C pa pb v hv _).mono ?_; rintro e w9 ⟨rfl, hb9⟩; rw [hD, HG.out.err]; unfold setV cellsF; have rs := RowAt.step rs hb9; have rp := RowAt.step rp hb9; have rq := RowAt.step rq hb9; have ra := RowAt.step ra hb9; have rb := RowAt.step rb hb9; have cs := RowAt.cell rs; have ds := RowAt.cellA rs; have cp := RowAt.cell rp; have dp := RowAt.cellA rp; have cq := RowAt.cell rq; have dq := RowAt.cellA rq; have ca := RowAt.cell ra; have da := RowAt.cellA ra; have cb := RowAt.cell rb; have db := RowAt.cellA rb)
            | (go_at_call 6; refine (live_any _).mono ?_; rintro e wl ⟨rfl, hbl⟩))
          go_ret
          exact ⟨rfl, go_new (go_new (go_new (go_on B6.out hb7) hb8) hb9) hbl⟩
        · clear hmd
          go_wp2_with (first
            | (go_at_call 10; refine (num_any _ _).mono ?_; rintro e wn ⟨rfl, rfl⟩)
            | (go_at_call_of 9 (Value.int IntKind.u64 ((word A 0 : Nat) : Int)); refine (put_any A qa qb u hu _).mono ?_; rintro e w7 ⟨rfl, hb7⟩; rw [hB, hE2]; unfold setV cellsF; have rs := RowAt.stay rs hb7; have rp := RowAt.stay rp hb7; have rq := RowAt.stay rq hb7; have ra := RowAt.stay ra hb7; have cs := RowAt.cell rs; have ds := RowAt.cellA rs; have cp := RowAt.cell rp; have dp := RowAt.cellA rp; have cq := RowAt.cell rq; have dq := RowAt.cellA rq; have ca := RowAt.cell ra; have da := RowAt.cellA ra)
            | (go_at_call_of 9 (Value.int IntKind.u64 ((word N 0 : Nat) : Int)); refine (put_any N qa qb u hu _).mono ?_; rintro e w8 ⟨rfl, hb8⟩; rw [hC, hE2]; unfold setV cellsF; have rs := RowAt.step rs hb8; have rp := RowAt.step rp hb8; have rq := RowAt.step rq hb8; have ra := RowAt.step ra hb8; have rb := RowAt.new hb8; have cs := RowAt.cell rs; have ds := RowAt.cellA rs; have cp := RowAt.cell rp; have dp := RowAt.cellA rp; have cq := RowAt.cell rq; have dq := RowAt.cellA rq; have ca := RowAt.cell ra; have da := RowAt.cellA ra; have cb := RowAt.cell rb; have db := RowAt.cellA rb)
            | (go_at_call_of 9 (Value.int IntKind.u64 ((word C 0 : Nat) : Int)); refine (put_any C pa pb v hv _).mono ?_; rintro e w9 ⟨rfl, hb9⟩; rw [hD, HG.out.err]; unfold setV cellsF; have rs := RowAt.step rs hb9; have rp := RowAt.step rp hb9; have rq := RowAt.step rq hb9; have ra := RowAt.step ra hb9; have rb := RowAt.step rb hb9; have cs := RowAt.cell rs; have ds := RowAt.cellA rs; have cp := RowAt.cell rp; have dp := RowAt.cellA rp; have cq := RowAt.cell rq; have dq := RowAt.cellA rq; have ca := RowAt.cell ra; have da := RowAt.cellA ra; have cb := RowAt.cell rb; have db := RowAt.cellA rb)
            | (go_at_call 6; refine (live_any _).mono ?_; rintro e wl ⟨rfl, hbl⟩))
          go_ret
          exact ⟨rfl, go_new (go_new (go_new (go_on B6.out hb7) hb8) hb9) hbl⟩
    · have hEb : (putE qa qb u != 0) = true := by simpa using hE2
      have hN0 := putN_zero (N := A) hE2
      go_wp2_with (first
        | (go_at_call 10; refine (num_any _ _).mono ?_; rintro e wn ⟨rfl, rfl⟩)
        | (go_at_call_of 9 (Value.int IntKind.u64 ((word A 0 : Nat) : Int)); refine (put_any A qa qb u hu _).mono ?_; rintro e w7 ⟨rfl, hb7⟩; rw [hN0]; unfold setV cellsF; have rs := RowAt.stay rs hb7; have rp := RowAt.stay rp hb7; have rq := RowAt.stay rq hb7; have ra := RowAt.stay ra hb7; have cs := RowAt.cell rs; have ds := RowAt.cellA rs; have cp := RowAt.cell rp; have dp := RowAt.cellA rp; have cq := RowAt.cell rq; have dq := RowAt.cellA rq; have ca := RowAt.cell ra; have da := RowAt.cellA ra)
        | (go_at_call 6; refine (live_any _).mono ?_; rintro e wl ⟨rfl, hbl⟩))
      go_ret
      exact ⟨rfl, go_new (go_on B6.out hb7) hbl⟩
  · have hN0 := putN_zero (N := N) hE
    have hEb : (putE pa pb v != 0) = true := by simpa using hE
    have hz := eq_zero
    unfold setV cellsF placeV
    go_enter Try.func4, Try.ntmps4
    go_wp2_with (first
      | (go_at_call 10; refine (num_any _ _).mono ?_; rintro e wn ⟨rfl, rfl⟩)
      | (go_at_call 9; refine (put_any N pa pb v hv _).mono ?_; rintro e w1 ⟨rfl, hb1⟩; rw [hN0]; unfold setV cellsF)
      | (go_at_call 6; refine (live_any _).mono ?_; rintro e wl ⟨rfl, hbl⟩))
    go_ret
    exact ⟨rfl, go_new (go_on ((((Below.refl _ _).alloc (Nat.le_refl _) _).alloc (by simp) _).alloc (by simp; omega) _) hb1) hbl⟩
/-! ### The row's step -/
theorem own : ownKnob Try.prog.godebug = none := by kernel_rfl
set_option maxRecDepth 100000 in
theorem lifted (os : Os) (started : os.Started) (H : Type) (enc : TypeId × Value → H) :
    ReturnsInHanded {} Try.checked os 4 .any (Rows.bitsPutsSpec.pre6 enc Try.prog Try.f4 Rows.bitsPutsRow.domain false) (Rows.bitsPutsSpec.post enc Try.prog Try.f4 false true false false) := by
  refine returnsInHanded_of_change (C := Try.checked) own started (by kernel_rfl) Try.func4
    (ChangeSpec.witness6 (enc := enc) (C := Try.checked) false ⟨#[], #[.agg #[.int .u64 0, .int .u64 0, .int .u64 0, .int .u64 0, .int .u64 0, .int .u64 0, .int .u64 0, .int .u64 0], .agg #[.int .i64 0, .int .i64 0], .agg #[.int .i64 0, .int .i64 0], .int .u64 0, .int .u64 0], []⟩ 8 (by kernel_rfl) (by kernel_rfl) (by kernel_rfl) (by kernel_rfl)) ?_
  intro W base args ds gs before hval0 hW hcnd _
  have hval : ∀ (j : Nat) t v, Try.f4.params[j]? = some t → args[j]? = some v → Value.okWide Try.prog W .any base t v := hval0
  clear hval0
  have hW' := hW
  obtain ⟨p, q, hA0, hV, rfl, hfz, hnd⟩ := hW
  have hA : DataW.TrodAll enc Try.prog W 0 (fun _ => true) true Try.f4.params.toList args.toList ds p := hA0
  rw [Try.params4] at hA hval
  obtain ⟨v0, vs0, d0, ds0, p0, q0, hargs, rfl, rfl, h0, r0⟩ := trodAll_cons hA
  obtain ⟨v1, vs1, d1, ds1, p1, q1, rfl, rfl, rfl, h1, r1⟩ := trodAll_cons r0
  obtain ⟨v2, vs2, d2, ds2, p2, q2, rfl, rfl, rfl, h2, r2⟩ := trodAll_cons r1
  obtain ⟨v3, vs3, d3, ds3, p3, q3, rfl, rfl, rfl, h3, r3⟩ := trodAll_cons r2
  obtain ⟨v4, vs4, d4, ds4, p4, q4, rfl, rfl, rfl, h4, r4⟩ := trodAll_cons r3
  obtain ⟨rfl, rfl, rfl⟩ := trodAll_nil r4
  obtain rfl : args = #[v0, v1, v2, v3, v4] := by cases args; simp_all
  obtain ⟨rfl, rfl⟩ := trodVars_none hV
  obtain ⟨a0, rfl, rfl, rfl, w0⟩ := open_set (hval 0 24 v0 rfl rfl) h0
  obtain ⟨a1, b1, rfl, rfl, rfl, w1, x1⟩ := open_place (hval 1 31 v1 rfl rfl) h1
  obtain ⟨a2, b2, rfl, rfl, rfl, w2, x2⟩ := open_place (hval 2 31 v2 rfl rfl) h2
  obtain ⟨n3, rfl, rfl, rfl, x3⟩ := open_int Try.underlying22 (hval 3 22 v3 rfl rfl) h3
  obtain ⟨a3, rfl, w3⟩ := u64_nat x3
  obtain ⟨n4, rfl, rfl, rfl, x4⟩ := open_int Try.underlying22 (hval 4 22 v4 rfl rfl) h4
  obtain ⟨a4, rfl, w4⟩ := u64_nat x4
  have z0 := w0
  have z1 := w1
  have z2 := w2
  have z3 := w3
  have z4 := w4
  clear hA0
  refine (walk a0 a1 b1 a2 b2 a3 a4 z0 z3 z4 W).mono fun e W' ⟨he, bel⟩ => ?_
  subst he
  exact ⟨_, rfl, _, _, _, [], _, [], hW', trodAll_mk1 (shut_bool Try.underlying4 _), (trodAll_cons_mk (shut_set a0) (trodAll_cons_mk (shut_place w1 x1) (trodAll_cons_mk (shut_place w2 x2) (trodAll_cons_mk (shut_int Try.underlying22 x3) (trodAll_cons_mk (shut_int Try.underlying22 x4) trodAll_mk0))))), rfl, bel.frame _, fun h => by cases h⟩

theorem over : Rows.bitsPutsRow.holds Try.pinned (OpenSpec.ofChange Rows.bitsPutsSpec) :=
  OpenClaim.holds_of_wide 4 Try.f4 rfl rfl rfl rfl rfl rfl rfl ⟨rfl, rfl, rfl, rfl, rfl⟩ rfl rfl rfl rfl rfl (by kernel_rfl) Try.func4 (by kernel_rfl)
    (of_decide_eq_true (by kernel_rfl)) (by unfold Func.isWrapper; first | (rw [if_pos (by decide +kernel)]; kernel_rfl) | (rw [if_neg (by decide +kernel)]; exact ⟨rfl, rfl⟩))
    (fun os started H enc _ => lifted os started H enc)

end Go.Proofs.Ytghchlppdhfoeab.bitsPuts
namespace Go.Proofs.Ytghchlppdhfoeab
/-- The given statement. -/
theorem bitsPuts_holds : Rows.BitsPutsSaid := bitsPuts.over
end Go.Proofs.Ytghchlppdhfoeab
