/- The law's join and laws: unions and intersections commute and associate, concatenations associate. -/
import Derived.Test.YtkobfknipjmpkaaDoorXv
import Derived.Test.YtkobfknipjmpkaaDoorXu
import Derived.Test.YtkobfknipjmpkaaDoorTm
namespace Go.Proofs.YtkobfknipjmpkaaDoor
open Go Go.RowKit
set_option linter.unusedVariables false

theorem wrong_tr5 {T : Tr} (ho : T.ok) (hl : T.flat.length ≤ 4000) : wrong T.flat = 0 := by
  unfold wrong
  rw [if_neg (by omega), if_pos (Tr.ok_free T ho)]
/-- One of the three rules, of normal forms. -/
def RK (k : Int) (x y : Tr) : Tr := if k = 7 then RC x y else R2 k x y
theorem nrm_two (k : Int) (A C : Tr) : nrm (.two (k, 0) A C) = RK k (nrm A) (nrm C) := by simp [nrm, RK]
theorem two_ok {k : Int} (hk : k = 5 ∨ k = 6 ∨ k = 7) {A C : Tr} (hA : A.ok) (hC : C.ok) : (Tr.two (k, 0) A C).ok := by
  rcases hk with rfl | rfl | rfl <;> exact ⟨rfl, rfl, hA, hC⟩
theorem RK_assoc {k : Int} (hk : k = 5 ∨ k = 6 ∨ k = 7) {x y z : Tr} (hox : x.ok) (hx : NF x) (hoy : y.ok) (hy : NF y) (hoz : z.ok) (hz : NF z) : RK k (RK k x y) z = RK k x (RK k y z) := by
  unfold RK
  rcases hk with rfl | rfl | rfl
  · exact R2_assoc (.inl rfl) hox hx hoy hy hoz hz
  · exact R2_assoc (.inr rfl) hox hx hoy hy hoz hz
  · exact RC_assoc hox hx hoy hy hoz hz
/-- The join of two lists is this list. -/
def Jn (k : Int) (a c N : List Nd) : Prop := N.length ≤ 4000 ∧ ∃ A C : Tr, A.ok ∧ C.ok ∧ A.flat = a ∧ C.flat = c ∧ wrong a = 0 ∧ wrong c = 0 ∧ N = (nrm (.two (k, 0) A C)).flat
theorem Jn.comm {k : Int} (hk : k = 5 ∨ k = 6) {a c N : List Nd} (h : Jn k a c N) : Jn k c a N := by
  obtain ⟨hl, A, C, hA, hC, ea, ec, wa, wc, rfl⟩ := h
  refine ⟨hl, C, A, hC, hA, ec, ea, wc, wa, ?_⟩
  have h7 : ¬ k = 7 := by omega
  rw [nrm_two, nrm_two]
  unfold RK
  rw [if_neg h7, if_neg h7, R2_comm hk (nrm_ok hA).1 (nrm_ok hA).2 (nrm_ok hC).1 (nrm_ok hC).2]
theorem Jn.one {k : Int} {a c N M : List Nd} (h : Jn k a c N) (g : Jn k a c M) : N = M := by
  obtain ⟨_, A, C, hA, hC, ea, ec, _, _, rfl⟩ := h
  obtain ⟨_, A', C', hA', hC', ea', ec', _, _, rfl⟩ := g
  rw [flat_inj hA hA' (ea.trans ea'.symm), flat_inj hC hC' (ec.trans ec'.symm)]
theorem Jn.assoc {k : Int} (hk : k = 5 ∨ k = 6 ∨ k = 7) {a b c M L X Y : List Nd} (h1 : Jn k a b M) (h2 : Jn k b c L) (h3 : Jn k M c X) (h4 : Jn k a L Y) : X = Y := by
  obtain ⟨_, A, B, hA, hB, ea, eb, _, _, rfl⟩ := h1
  obtain ⟨_, B', C, hB', hC, eb', ec, _, _, rfl⟩ := h2
  obtain ⟨_, M, C', hM, hC', eM, ec', _, _, rfl⟩ := h3
  obtain ⟨_, A', L, hA', hL, ea', eL, _, _, rfl⟩ := h4
  obtain rfl := flat_inj hB' hB (eb'.trans eb.symm)
  obtain rfl := flat_inj hC' hC (ec'.trans ec.symm)
  obtain rfl := flat_inj hA' hA (ea'.trans ea.symm)
  have oM := nrm_ok (two_ok hk hA hB)
  have oL := nrm_ok (two_ok hk hB hC)
  obtain rfl := flat_inj hM oM.1 eM
  obtain rfl := flat_inj hL oL.1 eL
  rw [nrm_two k (nrm (.two (k, 0) A' B')) C', nrm_two k A' (nrm (.two (k, 0) B' C')), nrm_nf oM.1 oM.2, nrm_nf oL.1 oL.2, nrm_two k A' B', nrm_two k B' C', RK_assoc hk (nrm_ok hA).1 (nrm_ok hA).2 (nrm_ok hB).1 (nrm_ok hB).2 (nrm_ok hC).1 (nrm_ok hC).2]
/-- What a join tells of any two lists. -/
def JR (k : Int) (a c : List Nd) (w : World) (e : Ending) (w' : World) : Prop := ∃ (u : Option Addr) (n m : Nat) (x : Int), e = .returned (.tuple #[.slice u n m, .int .i64 x]) ∧ Below w.heap.size w w' ∧ ((x ≠ 0 ∧ ∀ N, ¬ Jn k a c N) ∨ (x = 0 ∧ ∃ N, Jn k a c N ∧ NReads w' (.slice u n m) N))
theorem JR.of_bad {k x : Int} {a c : List Nd} {w w' : World} {e : Ending} (h : BQ x w e w') (hx : x = wrong2 a c) (h0 : wrong2 a c ≠ 0) : JR k a c w e w' := by
  obtain ⟨rfl, hb⟩ := h
  refine ⟨_, _, _, x, rfl, hb, .inl ⟨by rw [hx]; exact h0, fun N hN => h0 ?_⟩⟩
  obtain ⟨_, A, C, _, _, _, _, wa, wc, _⟩ := hN
  unfold wrong2
  rw [if_pos wa, wc]
theorem JR.of_good {k : Int} {A C : Tr} (hA : A.ok) (hC : C.ok) (wA : wrong A.flat = 0) (wC : wrong C.flat = 0) {w w' : World} {e : Ending} (h : JQ (.two (k, 0) A C) w e w') : JR k A.flat C.flat w e w' := by
  rcases h with ⟨h1, rfl, hb⟩ | ⟨h1, u, rfl, ho, hb⟩
  · refine ⟨_, _, _, 6, rfl, hb, .inl ⟨by omega, fun N hN => ?_⟩⟩
    obtain ⟨hl, A', C', hA', hC', ea, ec, _, _, rfl⟩ := hN
    rw [flat_inj hA' hA ea, flat_inj hC' hC ec] at hl
    omega
  · obtain ⟨ua, uc, rfl⟩ := own_shape ho
    exact ⟨_, _, _, 0, rfl, hb, .inr ⟨rfl, _, ⟨h1, A, C, hA, hC, rfl, rfl, wA, wC, rfl⟩, own_nreads ho⟩⟩
theorem wrong2_zero {a c : List Nd} (h : wrong2 a c = 0) : wrong a = 0 ∧ wrong c = 0 := by
  unfold wrong2 at h
  by_cases h0 : wrong a = 0
  · rw [if_pos h0] at h; exact ⟨h0, h⟩
  · rw [if_neg h0] at h; exact absurd h h0

theorem union_jr (a c : List Nd) (va vc : Value) (w : World) (hva : NReads w va a) (hvc : NReads w vc c) (ma : a.length ≤ 9223372036854775806) (mc : c.length ≤ 9223372036854775806) (hP : PTab w) :
    Calls Tryd.prog 19 #[va, vc] w fun e w' => JR 5 a c w e w' := by
  by_cases h0 : wrong2 a c = 0
  · obtain ⟨h1, h2⟩ := wrong2_zero h0
    obtain ⟨A, hA, rfl⟩ := nfL_of h1
    obtain ⟨C, hC, rfl⟩ := nfL_of h2
    exact (union_good A C hA hC va vc w hva hvc hP h1 h2).mono fun e w' h => JR.of_good hA hC h1 h2 h
  · exact (union_bad a c va vc w hva hvc ma mc hP h0).mono fun e w' h => JR.of_bad h rfl h0
set_option maxHeartbeats 2000000 in
set_option maxRecDepth 100000 in
theorem join5_any (a c : List Nd) (va vc : Value) (w : World) (hva : NReads w va a) (hvc : NReads w vc c) (ma : a.length ≤ 9223372036854775806) (mc : c.length ≤ 9223372036854775806) (hP : PTab w) :
    Calls Tryd.prog 50 #[.int .i64 5, va, vc] w fun e w' => JR 5 a c w e w' := by
  have HC : Hid (Calls Tryd.prog 19 #[va, vc] w fun e w' => JR 5 a c w e w') := union_jr a c va vc w hva hvc ma mc hP
  clear hva hvc ma mc hP
  go_enter Tryd.func50, Tryd.ntmps50
  go_wp2_with fail
  refine HC.out.mono ?_
  rintro e w1 ⟨u, n, m, x, rfl, h1⟩
  have H1 : Hid (JR 5 a c w (.returned (.tuple #[.slice u n m, .int .i64 x])) w1) := ⟨u, n, m, x, rfl, h1⟩
  clear h1 HC
  go_wp2_with fail
  go_ret2
  exact H1.out

theorem inter_jr (a c : List Nd) (va vc : Value) (w : World) (hva : NReads w va a) (hvc : NReads w vc c) (ma : a.length ≤ 9223372036854775806) (mc : c.length ≤ 9223372036854775806) (hP : PTab w) :
    Calls Tryd.prog 20 #[va, vc] w fun e w' => JR 6 a c w e w' := by
  by_cases h0 : wrong2 a c = 0
  · obtain ⟨h1, h2⟩ := wrong2_zero h0
    obtain ⟨A, hA, rfl⟩ := nfL_of h1
    obtain ⟨C, hC, rfl⟩ := nfL_of h2
    exact (inter_good A C hA hC va vc w hva hvc hP h1 h2).mono fun e w' h => JR.of_good hA hC h1 h2 h
  · exact (inter_bad a c va vc w hva hvc ma mc hP h0).mono fun e w' h => JR.of_bad h rfl h0
set_option maxHeartbeats 2000000 in
set_option maxRecDepth 100000 in
theorem join6_any (a c : List Nd) (va vc : Value) (w : World) (hva : NReads w va a) (hvc : NReads w vc c) (ma : a.length ≤ 9223372036854775806) (mc : c.length ≤ 9223372036854775806) (hP : PTab w) :
    Calls Tryd.prog 50 #[.int .i64 6, va, vc] w fun e w' => JR 6 a c w e w' := by
  have HC : Hid (Calls Tryd.prog 20 #[va, vc] w fun e w' => JR 6 a c w e w') := inter_jr a c va vc w hva hvc ma mc hP
  clear hva hvc ma mc hP
  go_enter Tryd.func50, Tryd.ntmps50
  go_wp2_with fail
  refine HC.out.mono ?_
  rintro e w1 ⟨u, n, m, x, rfl, h1⟩
  have H1 : Hid (JR 6 a c w (.returned (.tuple #[.slice u n m, .int .i64 x])) w1) := ⟨u, n, m, x, rfl, h1⟩
  clear h1 HC
  go_wp2_with fail
  go_ret2
  exact H1.out

theorem concatN_jr (a c : List Nd) (va vc : Value) (w : World) (hva : NReads w va a) (hvc : NReads w vc c) (ma : a.length ≤ 9223372036854775806) (mc : c.length ≤ 9223372036854775806) (hP : PTab w) :
    Calls Tryd.prog 21 #[va, vc] w fun e w' => JR 7 a c w e w' := by
  by_cases h0 : wrong2 a c = 0
  · obtain ⟨h1, h2⟩ := wrong2_zero h0
    obtain ⟨A, hA, rfl⟩ := nfL_of h1
    obtain ⟨C, hC, rfl⟩ := nfL_of h2
    exact (concatN_good A C hA hC va vc w hva hvc hP h1 h2).mono fun e w' h => JR.of_good hA hC h1 h2 h
  · exact (concatN_bad a c va vc w hva hvc ma mc hP h0).mono fun e w' h => JR.of_bad h rfl h0
set_option maxHeartbeats 2000000 in
set_option maxRecDepth 100000 in
theorem join7_any (a c : List Nd) (va vc : Value) (w : World) (hva : NReads w va a) (hvc : NReads w vc c) (ma : a.length ≤ 9223372036854775806) (mc : c.length ≤ 9223372036854775806) (hP : PTab w) :
    Calls Tryd.prog 50 #[.int .i64 7, va, vc] w fun e w' => JR 7 a c w e w' := by
  have HC : Hid (Calls Tryd.prog 21 #[va, vc] w fun e w' => JR 7 a c w e w') := concatN_jr a c va vc w hva hvc ma mc hP
  clear hva hvc ma mc hP
  go_enter Tryd.func50, Tryd.ntmps50
  go_wp2_with fail
  refine HC.out.mono ?_
  rintro e w1 ⟨u, n, m, x, rfl, h1⟩
  have H1 : Hid (JR 7 a c w (.returned (.tuple #[.slice u n m, .int .i64 x])) w1) := ⟨u, n, m, x, rfl, h1⟩
  clear h1 HC
  go_wp2_with fail
  go_ret2
  exact H1.out
end Go.Proofs.YtkobfknipjmpkaaDoor
