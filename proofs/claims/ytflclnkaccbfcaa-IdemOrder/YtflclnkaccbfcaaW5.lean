/- E53 E54, in one text. -/
import Derived.Test.YtflclnkaccbfcaaW2
import Derived.Deep.RegionHeld3
import Derived.Test.YtflclnkaccbfcaaW3
namespace Go.Proofs.Ytflclnkaccbfcaa
open Go Go.RowKit Go.Lib Go.Maps
set_option linter.unusedVariables false
attribute [-instance] List.instBEq instBEqProd

set_option maxHeartbeats 1000000 in
set_option maxRecDepth 100000 in
theorem at16_any {w : World} {ob : Nat} {A : Aut} {M : List (List Nat)} {N : List Nat} (h : MO w ob A M N) (i : Int) (hi : -9223372036854775808 ≤ i ∧ i ≤ 9223372036854775807) :
    Calls Try.prog 35 #[.pointer (some ⟨ob, 0, none⟩), .int .i64 i] w fun e w' => (∃ j : Nat, j < M.length ∧ e = .returned (.int .i64 (j : Nat))) ∧ Below w.heap.size w w' := by
  have hn1 := h.mon.pos
  have hn5 := h.mon.most
  have HM : Hid (MO w ob A M N) := h
  have HLT : Hid (∀ r : Int, 0 ≤ r → r < (M.length : Int) → ∃ j : Nat, j < M.length ∧ r = (j : Int)) := fun r h0 h1 => ⟨r.toNat, by omega, by omega⟩
  have HLN : Hid (∀ y, MO y ob A M N → Calls Try.prog 34 #[.pointer (some ⟨ob, 0, none⟩)] y fun e w' => e = .returned (.int .i64 (M.length : Nat)) ∧ y = w') := fun y hy => mlen_any hy
  obtain ⟨n, hn⟩ : ∃ n, M.length = n := ⟨_, rfl⟩
  rw [hn] at hn1 hn5 HLT HLN ⊢
  obtain ⟨r1, hr1⟩ : ∃ r1, i.tmod (n : Int) = r1 := ⟨_, rfl⟩
  have b1 : -(n : Int) < r1 ∧ r1 < (n : Int) := by
    rw [← hr1]
    have := Int.tmod_lt_of_pos i (show (0 : Int) < n by omega)
    have := Int.lt_tmod_of_pos i (show (0 : Int) < n by omega)
    exact ⟨by omega, by omega⟩
  obtain ⟨r2, hr2⟩ : ∃ r2, r1 + (n : Int) = r2 := ⟨_, rfl⟩
  obtain ⟨r3, hr3⟩ : ∃ r3, r2.tmod (n : Int) = r3 := ⟨_, rfl⟩
  have b3 : 0 ≤ r3 ∧ r3 < (n : Int) := by
    rw [← hr3]
    exact ⟨Int.tmod_nonneg _ (by omega), Int.tmod_lt_of_pos _ (by omega)⟩
  have HB3 : Hid (0 ≤ r3 ∧ r3 < (n : Int)) := b3
  have hw1 : IntKind.i64.wrap r1 = r1 := by rw [IntKind.wrap_i64]; omega
  have hw2 : IntKind.i64.wrap (r1 + (n : Int)) = r2 := by rw [IntKind.wrap_i64]; omega
  have hw3 : IntKind.i64.wrap r3 = r3 := by rw [IntKind.wrap_i64]; omega
  have hz : ¬ (n : Int) = 0 := by omega
  have hz1 : ((n : Int) == 0) = false := by rw [beq_eq_false_iff_ne]; omega
  have hz2 : ¬ n = 0 := by omega
  have hz3 : decide (n = 0) = false := decide_eq_false hz2
  have S0 : MO w.drew ob A M N := h.below (Below.refl _ _).drew
  clear h hn hr2 b1 b3 hi hn1 hn5
  go_enter Try.func35, Try.ntmps35
  go_wp2_with fail
  go_region_held3 (fun y => MO y ob A M N) (first | assumption | exact S0) (first
    | (go_at_call 34; refine (HLN.out _ (by assumption)).mono ?_; rintro e y1 ⟨rfl, rfl⟩))
  clear S0
  go_wp2_with fail
  go_ret
  obtain ⟨j, hj, rfl⟩ := HLT.out r3 HB3.out.1 HB3.out.2
  exact ⟨⟨j, hj, rfl⟩, (Below.refl _ _).drew⟩

set_option maxHeartbeats 1000000 in
set_option maxRecDepth 100000 in
theorem times16_any {w : World} {ob : Nat} {A : Aut} {M : List (List Nat)} {N : List Nat} (h : MO w ob A M N) (i j : Nat) (hi : i < M.length) (hj : j < M.length) :
    Calls Try.prog 36 #[.pointer (some ⟨ob, 0, none⟩), .int .i64 i, .int .i64 j] w fun e w' => e = .returned (.int .i64 (pr A.k.toNat N i j : Nat)) ∧ Below w.heap.size w w' := by
  have HP : Hid _ := mproduct_ok h i j hi hj
  clear h
  go_enter Try.func36, Try.ntmps36
  go_wp2_with fail
  refine Calls.mono HP.out ?_
  rintro e w1 ⟨rfl, hb⟩
  have HB : Hid (Below w.heap.size w w1) := hb
  clear hb
  go_wp2_with fail
  go_ret
  exact ⟨rfl, HB.out⟩

/-- An int's numbers. -/
def I64 (x : Int) : Prop := -9223372036854775808 ≤ x ∧ x ≤ 9223372036854775807

theorem i64_of {n : Int} (h : (Lit.int .i64 n).wf = true) : I64 n := by
  simp [Lit.wf, IntKind.min, IntKind.max, IntKind.signed, IntKind.bits] at h
  exact ⟨by omega, by omega⟩

theorem eq_Mnil (a : Addr) (w : World) : (binOp .eql 22 (.pointer (some a)) (.pointer none)).run Try.prog w = .ok (.bool false) w := by
  simp only [binOp]
  simp only [Op.equal, Op.maxDepth]
  rw [show (10000 : Nat) = 9999 + 1 from rfl, Op.equalIn]
  simp [Sem.run_bind, run_underlying Try.underlying22]

/-- Among the first powers up to the circle's end just one is idempotent: omega. -/
theorem Mon.cyc_one {A : Aut} {M : List (List Nat)} {N : List Nat} (h : Mon A M N) {i : Nat} (hi : i < M.length) {t r x : Nat} (R : TR (rm A.k.toNat N i) 0 t r) (hx : OmQ A.k.toNat N i x) :
    ∃ c, c < t + r ∧ pwN A.k.toNat N i c = x ∧ ∀ k, k < t + r → (((0 < k ∨ t = 0) ∧ Go.Proofs.Ytflclnkaccbfcaa.pr A.k.toNat N (pwN A.k.toNat N i k) (pwN A.k.toNat N i k) = pwN A.k.toNat N i k) ↔ k = c) := by
  have hr := R.pos
  by_cases ht : t = 0
  · subst ht
    refine ⟨0, by omega, ?_, fun k hk => ⟨fun hc => ?_, fun hc => ?_⟩⟩
    · refine h.om_uniq hi ⟨r, hr, ?_, ?_⟩ hx
      · have := R.back
        rw [Nat.zero_add] at this
        exact this
      · exact h.one_pr h.pos
    · by_cases k0 : k = 0
      · exact k0
      · have := (h.idem_iff hi R k (by omega)).1 hc.2
        have := Nat.le_of_dvd (by omega) this.2
        omega
    · subst hc
      exact ⟨.inr rfl, h.one_pr h.pos⟩
  · have e := Nat.mod_add_div (t + r - 1) r
    have hm := Nat.mod_lt (t + r - 1) hr
    refine ⟨r * ((t + r - 1) / r), by omega, ?_, fun k hk => ⟨fun hc => ?_, fun hc => ?_⟩⟩
    · exact h.om_uniq hi ⟨_, by omega, rfl, (h.idem_iff hi R _ (by omega)).2 ⟨by omega, Nat.dvd_mul_right _ _⟩⟩ hx
    · have hk0 : 0 < k := by omega
      obtain ⟨k1, d, rfl⟩ := (h.idem_iff hi R k (by omega)).1 hc.2
      congr 1
      rcases Nat.lt_trichotomy d ((t + r - 1) / r) with q | q | q
      · have := Nat.mul_le_mul_left r (show d + 1 ≤ (t + r - 1) / r from q)
        rw [Nat.mul_add] at this
        omega
      · exact q
      · have := Nat.mul_le_mul_left r (show (t + r - 1) / r + 1 ≤ d from q)
        rw [Nat.mul_add] at this
        omega
    · subst hc
      exact ⟨.inl (by omega), (h.idem_iff hi R _ (by omega)).2 ⟨by omega, Nat.dvd_mul_right _ _⟩⟩

/-- The exponent's power is omega. -/
theorem Mon.ex_om {A : Aut} {M : List (List Nat)} {N : List Nat} (h : Mon A M N) {i : Nat} (hi : i < M.length) {t r x E : Nat} (R : TR (rm A.k.toNat N i) 0 t r) (hx : OmQ A.k.toNat N i x) (h1 : 1 ≤ E) (h2 : t ≤ E) (h3 : r ∣ E) : pwN A.k.toNat N i E = x :=
  h.om_uniq hi ⟨E, h1, rfl, (h.idem_iff hi R E h1).2 ⟨h2, h3⟩⟩ hx
end Go.Proofs.Ytflclnkaccbfcaa

namespace Go.Proofs.Ytflclnkaccbfcaa
open Go Go.RowKit Go.Lib Go.Maps
set_option linter.unusedVariables false
attribute [-instance] List.instBEq instBEqProd

set_option maxHeartbeats 1000000 in
set_option maxRecDepth 100000 in
theorem icheckI_ok {w : World} {ob : Nat} {A : Aut} {M : List (List Nat)} {N : List Nat} (h : MO w ob A M N) (a : Option Addr) (cap : Nat) (L : List Nat) (hL : ∀ x ∈ L, x < M.length ∧ pr A.k.toNat N x x = x) (hS : SR w a (nC L)) (hm : L.length ≤ 9223372036854775806) :
    Calls Try.prog 57 #[.pointer (some ⟨ob, 0, none⟩), .slice a L.length cap] w fun e w' => e = .returned (.int .i64 0) ∧ Below w.heap.size w w' := by
  have HM : Hid (MO w ob A M N) := h
  have HL : Hid (∀ x ∈ L, x < M.length ∧ pr A.k.toNat N x x = x) := hL
  have HS : Hid (SR w a (nC L)) := hS
  have HC : Hid (Calls Try.prog 43 #[.pointer (some ⟨ob, 0, none⟩), .slice a L.length cap] w fun e w' => e = .returned (.int .i64 0) ∧ w = w') := by
    have q := icheck_any h a cap (L.map fun (n : Nat) => (n : Int)) (by rw [← nC_zC]; exact hS) (by simpa using hm)
    have e : ick M.length (L.map fun (n : Nat) => (n : Int)) = 0 := by
      unfold ick
      rw [if_pos]
      rw [List.all_eq_true]
      intro x hx
      obtain ⟨y, hy, rfl⟩ := List.mem_map.1 hx
      have := (hL y hy).1
      exact decide_eq_true ⟨by omega, by omega⟩
    rw [e, List.length_map] at q
    exact q
  clear h hL hS
  go_enter Try.func57, Try.ntmps57
  go_wp2_with fail
  refine HC.out.mono ?_
  rintro e w1 ⟨rfl, rfl⟩
  go_wp2_with fail
  go_loopw [16] (fun vi wr => ∃ i : Nat, i ≤ L.length ∧ vi = .int .i64 (i : Nat) ∧ Below w.heap.size w wr) (fun vi _ => L.length - (Go.Lib.intOf vi).toNat)
  case atStart => exact ⟨0, Nat.zero_le _, rfl, Below.refl _ _⟩
  case round =>
    obtain ⟨i, hi, rfl, hb⟩ := hrel
    have HB : Hid (Below w.heap.size w wr) := hb
    by_cases hlt : i < L.length
    · have hiI : (i : Int) < L.length := by omega
      obtain ⟨g, o, rfl, _, hc⟩ := (HS.out.stay hb).nat hlt
      obtain ⟨x, hx⟩ : ∃ x, L.getD i 0 = x := ⟨_, rfl⟩
      rw [hx] at hc
      have hxL : L[i]? = some x := by rw [List.getElem?_eq_getElem hlt, ← hx]; simp [hlt]
      have hxl := HL.out x (List.mem_of_getElem? hxL)
      have HI : Hid (Calls Try.prog 44 #[.pointer (some ⟨ob, 0, none⟩), .int .i64 (x : Nat)] wr fun e w' => e = .returned (.bool true) ∧ Below wr.heap.size wr w') := by
        have q := isIdem_any (HM.out.below HB.out) x hxl.1
        have e : idE A.k.toNat N x = true := decide_eq_true hxl.2
        rw [e] at q
        exact q
      have HLT : Hid (i < L.length) := hlt
      clear hb hx hxL hlt hxl
      go_wp2_with fail
      refine HI.out.mono ?_
      rintro e w1 ⟨rfl, hb1⟩
      have HB1 : Hid (Below w.heap.size w w1) := go_on HB.out hb1
      clear hb1 hc
      go_wp2_with fail
      go_roundw
      case rel => exact ⟨i + 1, HLT.out, by go_num, HB1.out⟩
      case measure => have := HLT.out; simp [Go.Lib.intOf]; omega
    · have hiI : ¬ (i : Int) < L.length := by omega
      clear hb
      go_wp2_with fail
      go_ret
      exact ⟨rfl, HB.out⟩

/-- Does one idempotent stand at or below another one? -/
def leE (K : Nat) (N : List Nat) (e f : Nat) : Bool := decide (pr K N e f = e ∧ pr K N f e = e)

set_option maxHeartbeats 2000000 in
set_option maxRecDepth 100000 in
theorem iBelow_ok {w : World} {ob : Nat} {A : Aut} {M : List (List Nat)} {N : List Nat} (h : MO w ob A M N) (x y : Nat) (hx : x < M.length) (hy : y < M.length) (hxx : pr A.k.toNat N x x = x) (hyy : pr A.k.toNat N y y = y) :
    Calls Try.prog 29 #[.pointer (some ⟨ob, 0, none⟩), .int .i64 (x : Nat), .int .i64 (y : Nat)] w fun e w' => e = .returned (.tuple #[.bool (leE A.k.toNat N x y), .int .i64 0]) ∧ Below w.heap.size w w' := by
  obtain ⟨w1, hw1⟩ : ∃ w1, w1 = w.alloc (.cells #[.int .i64 (x : Nat), .int .i64 (y : Nat)] 3) := ⟨_, rfl⟩
  have HB1 : Hid (Below w.heap.size w w1) := by show Below _ _ _; rw [hw1]; exact below_new _ _
  have HW1 : Hid (w1 = w.alloc (.cells #[.int .i64 (x : Nat), .int .i64 (y : Nat)] 3)) := hw1
  have HM : Hid (MO w ob A M N) := h
  have HC : Hid (Calls Try.prog 57 #[.pointer (some ⟨ob, 0, none⟩), .slice (some ⟨w.heap.size, 0, none⟩) 2 2] w1 fun e w' => e = .returned (.int .i64 0) ∧ Below w1.heap.size w1 w') := by
    show Calls _ _ _ _ _
    have q := icheckI_ok (h.below HB1.out) (some ⟨w.heap.size, 0, none⟩) 2 [x, y] (by simp; exact ⟨⟨hx, hxx⟩, hy, hyy⟩) (by rw [hw1]; exact sr_new w [x, y] 3) (by simp)
    exact q
  have HP1 : Hid (∀ u, MO u ob A M N → Calls Try.prog 55 #[.pointer (some ⟨ob, 0, none⟩), .slice (some ⟨u.heap.size, 0, none⟩) 2 2] (u.alloc (.cells #[.int .i64 (x : Nat), .int .i64 (y : Nat)] 3)) fun e w' => e = .returned (.int .i64 (pr A.k.toNat N x y : Nat)) ∧ Below u.heap.size u w') := fun u hu => iprod_two hu x y hx hy
  have HP2 : Hid (∀ u, MO u ob A M N → Calls Try.prog 55 #[.pointer (some ⟨ob, 0, none⟩), .slice (some ⟨u.heap.size, 0, none⟩) 2 2] (u.alloc (.cells #[.int .i64 (y : Nat), .int .i64 (x : Nat)] 3)) fun e w' => e = .returned (.int .i64 (pr A.k.toNat N y x : Nat)) ∧ Below u.heap.size u w') := fun u hu => iprod_two hu y x hy hx
  obtain ⟨p, hp⟩ : ∃ p, pr A.k.toNat N x y = p := ⟨_, rfl⟩
  obtain ⟨q, hq⟩ : ∃ q, pr A.k.toNat N y x = q := ⟨_, rfl⟩
  have HE : Hid (leE A.k.toNat N x y = decide (p = x ∧ q = x)) := by show _ = _; unfold leE; rw [hp, hq]
  rw [hp] at HP1
  rw [hq] at HP2
  clear h hw1 hp hq
  go_enter Try.func29, Try.ntmps29
  go_wp2_with fail
  rw [← HW1.out]
  refine HC.out.mono ?_
  rintro e w2 ⟨rfl, hb⟩
  have HB2 : Hid (Below w.heap.size w w2) := go_on HB1.out hb
  have HM2 : Hid (MO w2 ob A M N) := HM.out.below HB2.out
  clear hb
  go_wp2_with fail
  refine (HP1.out _ HM2.out).mono ?_
  rintro e w3 ⟨rfl, hb⟩
  have HB3 : Hid (Below w.heap.size w w3) := go_on HB2.out hb
  have HM3 : Hid (MO w3 ob A M N) := HM.out.below HB3.out
  clear hb
  by_cases c1 : p = x
  · have c1a : ((p : Int) == (x : Int)) = true := by rw [beq_iff_eq]; omega
    have HE1 : Hid (leE A.k.toNat N x y = decide (q = x)) := by show _ = _; rw [HE.out]; simp [c1]
    clear c1
    go_wp2_with fail
    refine (HP2.out _ HM3.out).mono ?_
    rintro e w4 ⟨rfl, hb⟩
    have HB4 : Hid (Below w.heap.size w w4) := go_on HB3.out hb
    clear hb
    by_cases c2 : q = x
    · have c2a : ((q : Int) == (x : Int)) = true := by rw [beq_iff_eq]; omega
      have HE2 : Hid (leE A.k.toNat N x y = true) := by show _ = _; rw [HE1.out]; exact decide_eq_true c2
      clear c2
      go_wp2_with fail
      go_ret2
      exact ⟨by rw [HE2.out]; rfl, HB4.out⟩
    · have c2a : ((q : Int) == (x : Int)) = false := by rw [beq_eq_false_iff_ne]; omega
      have HE2 : Hid (leE A.k.toNat N x y = false) := by show _ = _; rw [HE1.out]; exact decide_eq_false c2
      clear c2
      go_wp2_with fail
      go_ret2
      exact ⟨by rw [HE2.out]; rfl, HB4.out⟩
  · have c1a : ((p : Int) == (x : Int)) = false := by rw [beq_eq_false_iff_ne]; omega
    have HE1 : Hid (leE A.k.toNat N x y = false) := by show _ = _; rw [HE.out]; exact decide_eq_false (fun q => c1 q.1)
    clear c1
    go_wp2_with fail
    go_ret2
    exact ⟨by rw [HE1.out]; rfl, HB3.out⟩

/-- Is it of the monoid at e? -/
def btE (K : Nat) (N : List Nat) (e i : Nat) : Bool := decide (pr K N (pr K N e i) e = i)

set_option maxHeartbeats 1000000 in
set_option maxRecDepth 100000 in
theorem between1_any {w : World} {ob : Nat} {A : Aut} {M : List (List Nat)} {N : List Nat} (h : MO w ob A M N) (b b2 x : Nat) (hc : w.cell? ⟨b, 0, none⟩ = some (.pointer (some ⟨ob, 0, none⟩))) (hc2 : w.cell? ⟨b2, 0, none⟩ = some (.int .i64 (x : Nat))) (hx : x < M.length) (i : Nat) (hi : i < M.length) :
    Calls Try.prog 58 #[.int .i64 (i : Nat), .pointer (some ⟨b, 0, none⟩), .pointer (some ⟨b2, 0, none⟩)] w fun e w' => e = .returned (.bool (btE A.k.toNat N x i)) ∧ Below w.heap.size w w' := by
  have HP : Hid _ := iprod_three h x i x hx hi hx
  obtain ⟨p, hp⟩ : ∃ p, pr A.k.toNat N (pr A.k.toNat N x i) x = p := ⟨_, rfl⟩
  have HE : Hid (btE A.k.toNat N x i = decide (p = i)) := by show _ = _; unfold btE; rw [hp]
  rw [hp] at HP
  clear h hp
  go_enter Try.func58, Try.ntmps58
  go_wp2_with fail
  refine Calls.mono HP.out ?_
  rintro e w1 ⟨rfl, hb⟩
  have HB : Hid (Below w.heap.size w w1) := hb
  clear hb
  by_cases c : p = i
  · have c1 : ((p : Int) == (i : Int)) = true := by rw [beq_iff_eq]; omega
    have HE2 : Hid (btE A.k.toNat N x i = true) := by show _ = _; rw [HE.out]; exact decide_eq_true c
    clear c
    go_wp2_with fail
    go_ret
    exact ⟨by rw [HE2.out]; rfl, HB.out⟩
  · have c1 : ((p : Int) == (i : Int)) = false := by rw [beq_eq_false_iff_ne]; omega
    have HE2 : Hid (btE A.k.toNat N x i = false) := by show _ = _; rw [HE.out]; exact decide_eq_false c
    clear c
    go_wp2_with fail
    go_ret
    exact ⟨by rw [HE2.out]; rfl, HB.out⟩

set_option maxHeartbeats 1000000 in
set_option maxRecDepth 100000 in
theorem iBetween_ok {w : World} {ob : Nat} {A : Aut} {M : List (List Nat)} {N : List Nat} (h : MO w ob A M N) (x : Nat) (hx : x < M.length) (hxx : pr A.k.toNat N x x = x) :
    Calls Try.prog 31 #[.pointer (some ⟨ob, 0, none⟩), .int .i64 (x : Nat)] w (LsQ (thL M.length (btE A.k.toNat N x)) w) := by
  obtain ⟨w2, hw2⟩ : ∃ w2, w2 = (w.alloc (.cells #[.pointer (some ⟨ob, 0, none⟩)] 22)).alloc (.cells #[.int .i64 (x : Nat)] 3) := ⟨_, rfl⟩
  have HB2 : Hid (Below w.heap.size w w2) := by show Below _ _ _; rw [hw2]; exact go_on (below_new _ _) (below_new _ _)
  have HM : Hid (MO w ob A M N) := h
  have HW2 : Hid (w2 = (w.alloc (.cells #[.pointer (some ⟨ob, 0, none⟩)] 22)).alloc (.cells #[.int .i64 (x : Nat)] 3)) := hw2
  have HC1 : Hid (w2.cell? ⟨w.heap.size, 0, none⟩ = some (.pointer (some ⟨ob, 0, none⟩))) := by
    show _ = _
    have e : w2.heap[w.heap.size]? = some (.cells #[.pointer (some ⟨ob, 0, none⟩)] 22 (0, 0)) := by rw [hw2, heap_allo (by simp)]; exact heap_last _ _
    exact cell_at e rfl
  have HC2 : Hid (w2.cell? ⟨w.heap.size + 1, 0, none⟩ = some (.int .i64 (x : Nat))) := by
    show _ = _
    have e : w2.heap[w.heap.size + 1]? = some (.cells #[.int .i64 (x : Nat)] 3 (0, 0)) := by
      rw [hw2]
      have := heap_last (w.alloc (.cells #[.pointer (some ⟨ob, 0, none⟩)] 22)) (.cells #[.int .i64 (x : Nat)] 3)
      rwa [World.size_alloc] at this
    exact cell_at e rfl
  have hz2 : w2.heap.size = w.heap.size + 2 := by rw [hw2]; simp
  have HZ2 : Hid (w2.heap.size = w.heap.size + 2) := hz2
  have HCK : Hid (Calls Try.prog 57 #[.pointer (some ⟨ob, 0, none⟩), .slice (some ⟨w.heap.size + 2, 0, none⟩) 1 1] (w2.alloc (.cells #[.int .i64 (x : Nat)] 3)) fun e w' => e = .returned (.int .i64 0) ∧ Below (w2.alloc (.cells #[.int .i64 (x : Nat)] 3)).heap.size (w2.alloc (.cells #[.int .i64 (x : Nat)] 3)) w') := by
    show Calls _ _ _ _ _
    have q := icheckI_ok ((h.below HB2.out).below (below_new w2 (.cells #[.int .i64 (x : Nat)] 3))) (some ⟨w2.heap.size, 0, none⟩) 1 [x] (by simp; exact ⟨hx, hxx⟩) (sr_new w2 [x] 3) (by simp)
    rw [hz2] at q
    exact q
  have HT : Hid (∀ u, Below w2.heap.size w2 u → Calls Try.prog 47 #[.pointer (some ⟨ob, 0, none⟩), .func (.func 58) #[] #[.pointer (some ⟨w.heap.size, 0, none⟩), .pointer (some ⟨w.heap.size + 1, 0, none⟩)]] u fun e w' => ∃ v, e = .returned v ∧ OwnN w' u.heap.size v (thL M.length (btE A.k.toNat N x)) ∧ Below u.heap.size u w') := fun u hu =>
    those_any (HM.out.below (go_on HB2.out hu)) 58 _ _ (enters_of Try.func58 (by kernel_rfl) rfl) (fun y i hy hi => between1_any (HM.out.below (go_on (go_on HB2.out hu) hy)) w.heap.size (w.heap.size + 1) x (by rw [below_cellJ (go_on hu hy) (by omega)]; exact HC1.out) (by rw [below_cellJ (go_on hu hy) (by omega)]; exact HC2.out) hx i hi)
  clear h hw2 hz2
  go_enter Try.func31, Try.ntmps31
  go_wp2_with fail
  rw [← HW2.out]
  refine HCK.out.mono ?_
  rintro e w3 ⟨rfl, hb⟩
  have HB3 : Hid (Below w2.heap.size w2 w3) := go_on (below_new _ _) hb
  have hc1 : w3.cell? ⟨w.heap.size, 0, none⟩ = some (.pointer (some ⟨ob, 0, none⟩)) := by rw [below_cellJ HB3.out (by rw [HZ2.out]; omega)]; exact HC1.out
  clear hb
  go_wp2_with fail
  refine (HT.out _ HB3.out).mono ?_
  rintro e w4 ⟨v, rfl, ho, hb⟩
  have HO : Hid (OwnN w4 w.heap.size v (thL M.length (btE A.k.toNat N x))) := own_mono ho (by have := HB3.out.size; have := HZ2.out; omega)
  have HB4 : Hid (Below w.heap.size w w4) := go_on (go_on HB2.out HB3.out) hb
  clear ho hb hc1
  go_wp2_with fail
  go_ret2
  exact ⟨_, rfl, HO.out, HB4.out⟩
end Go.Proofs.Ytflclnkaccbfcaa
