/- Proved: the card of eggboxlaw05.NormJoins: it answers true at every two lists of nodes (P503), with tree.partsOf as the program's text lays it: norm.Union, norm.Inter and norm.Concat answer what the document's answer, ErrSize among it, leave what they were handed as it was, and what they answer is the caller's own. -/
import Derived.Test.YtdmjcfecahcdnaaDoorUe
import Derived.Test.YtdmjcfecahcdnaaDoorXu
import Derived.Test.YtdmjcfecahcdnaaDoorTn
import Derived.LaidMore
import Derived.Stop.Joined
import Derived.Lib.LaidTab
import Derived.SevenTiedAt
import Derived.ShutString
import Derived.ChangeMaps5
import Derived.Test.YtdmjcfecahcdnaaDoorTie
import Derived.Test.YtdmjcfecahcdnaaDoorCards
namespace Go.Proofs.YtdmjcfecahcdnaaDoor.normJoins
open Go.ChangeShapes Go.WideShapes Go.ChangeAt Go.RowKit
open Go.ChangeMaps (open_string shut_string)
set_option linter.unusedVariables false

set_option maxHeartbeats 32000000 in
set_option maxRecDepth 100000 in
theorem walk (v : Value) (ts : List Nd) (u : Value) (ss : List Nd) (w : World) (hv : NReads w v ts) (hx : (∀ c, v = .slice none 0 c → c = 0) ∧ ∀ a n c, v = .slice a n c → n ≤ c) (hl : (ts.length + 2) * 16 ≤ 140737488355328) (hu : NReads w u ss) (hy : (∀ c, u = .slice none 0 c → c = 0) ∧ ∀ a n c, u = .slice a n c → n ≤ c) (hl2 : (ss.length + 2) * 16 ≤ 140737488355328) (hP : PTab w) :
    Calls Tryd.prog 4 #[v, u] w fun e w' => e = .returned (.bool true) ∧ Below w.heap.size w w' := by
  have HV : Hid (NReads w v ts) := hv
  have HU : Hid (NReads w u ss) := hu
  have HP : Hid (PTab w) := hP
  have HX : Hid ((∀ c, v = .slice none 0 c → c = 0) ∧ ∀ a n c, v = .slice a n c → n ≤ c) := hx
  have HY : Hid ((∀ c, u = .slice none 0 c → c = 0) ∧ ∀ a n c, u = .slice a n c → n ≤ c) := hy
  obtain ⟨av, cv, rfl, _⟩ := hv
  obtain ⟨au, cu, rfl, _⟩ := hu
  have hcv : ts.length ≤ cv := hx.2 _ _ _ rfl
  have hcu : ss.length ≤ cu := hy.2 _ _ _ rfl
  obtain ⟨E1, R1, hN1⟩ := join_ex 5 ts ss
  have HN1 : Hid (JoinR 5 ts ss E1 R1) := hN1
  have h41 : R1.length ≤ 4000 := by
    rcases hN1 with ⟨h0, rfl, rfl⟩ | ⟨A, C, hA, hC, rfl, rfl, wA, wC, hF⟩
    · simp
    · rcases hF with ⟨_, rfl, rfl⟩ | ⟨h, rfl, rfl⟩
      · simp
      · exact h
  obtain ⟨E2, R2, hN2⟩ := join_ex 6 ts ss
  have HN2 : Hid (JoinR 6 ts ss E2 R2) := hN2
  have h42 : R2.length ≤ 4000 := by
    rcases hN2 with ⟨h0, rfl, rfl⟩ | ⟨A, C, hA, hC, rfl, rfl, wA, wC, hF⟩
    · simp
    · rcases hF with ⟨_, rfl, rfl⟩ | ⟨h, rfl, rfl⟩
      · simp
      · exact h
  obtain ⟨E3, R3, hN3⟩ := join_ex 7 ts ss
  have HN3 : Hid (JoinR 7 ts ss E3 R3) := hN3
  have h43 : R3.length ≤ 4000 := by
    rcases hN3 with ⟨h0, rfl, rfl⟩ | ⟨A, C, hA, hC, rfl, rfl, wA, wC, hF⟩
    · simp
    · rcases hF with ⟨_, rfl, rfl⟩ | ⟨h, rfl, rfl⟩
      · simp
      · exact h
  clear hP hx hy hN1 hN2 hN3
  go_enter Tryd.func4, Tryd.ntmps4
  go_wp2_with fail
  refine (lent_any _ ts _ HV.out HX.out.1 hl).mono ?_
  rintro e w1 ⟨g, cap, rfl, ho, hb⟩
  have hww0 := hb.size
  have hg0 : g < w1.heap.size := (lent_reads ho).2.1
  have HB1 : Hid (Below w.heap.size w w1) := hb
  have hs1 := hb.size
  have HO1 : Hid (w1.ownsRow w.heap.size 52 2 (.slice (some ⟨g, 0, none⟩) (ts.length + 2) cap) (ts.length + 2) (ndC (ts ++ [(-7, 0), (-8, 0)]))) := ho
  clear hb ho
  go_wp2_with fail
  refine (lent_any _ ss _ (HU.out.stay HB1.out) HY.out.1 hl2).mono ?_
  rintro e w2 ⟨g2, cap2, rfl, ho, hb⟩
  have hww1 := hb.size
  have hg2 : g2 < w2.heap.size := (lent_reads ho).2.1
  have HB2 : Hid (Below w.heap.size w w2) := go_on HB1.out hb
  have hs2 := hb.size
  have HO2 : Hid (w2.ownsRow w.heap.size 52 2 (.slice (some ⟨g, 0, none⟩) (ts.length + 2) cap) (ts.length + 2) (ndC (ts ++ [(-7, 0), (-8, 0)]))) := own_below HO1.out hb
  have HQ2 : Hid (w2.ownsRow w1.heap.size 52 2 (.slice (some ⟨g2, 0, none⟩) (ss.length + 2) cap2) (ss.length + 2) (ndC (ss ++ [(-7, 0), (-8, 0)]))) := ho
  clear hb ho HO1
  go_wp2_with fail
  refine (unionN_jn HN1.out _ _ _ (lent_reads HO2.out).1 (lent_reads HQ2.out).1 (by omega) (by omega) (HP.out.stay HB2.out)).mono ?_
  rintro e w3 ⟨u, rfl, ho, hb⟩
  obtain ⟨a1, c1, rfl⟩ := own_shape ho
  have HB3 : Hid (Below w.heap.size w w3) := go_on HB2.out hb
  have hs3 := hb.size
  have HO3 : Hid (w3.ownsRow w.heap.size 52 2 (.slice (some ⟨g, 0, none⟩) (ts.length + 2) cap) (ts.length + 2) (ndC (ts ++ [(-7, 0), (-8, 0)]))) := own_below HO2.out hb
  have HQ3 : Hid (w3.ownsRow w1.heap.size 52 2 (.slice (some ⟨g2, 0, none⟩) (ss.length + 2) cap2) (ss.length + 2) (ndC (ss ++ [(-7, 0), (-8, 0)]))) := own_below HQ2.out hb
  have HA3 : Hid (w3.ownsRow w2.heap.size 52 2 (.slice a1 R1.length c1) R1.length (ndC R1)) := ho
  clear hb ho HO2 HQ2 HB2
  have HAB1 : Hid (∀ b, (Value.slice a1 R1.length c1).ownBlock = some b → b < w3.heap.size) := fun b hb => (HA3.out.lt b hb).2
  go_wp2_with fail
  refine (interN_jn HN2.out _ _ _ (lent_reads HO3.out).1 (lent_reads HQ3.out).1 (by omega) (by omega) (HP.out.stay HB3.out)).mono ?_
  rintro e w4 ⟨u, rfl, ho, hb⟩
  obtain ⟨a2, c2, rfl⟩ := own_shape ho
  have HB4 : Hid (Below w.heap.size w w4) := go_on HB3.out hb
  have hs4 := hb.size
  have HO4 : Hid (w4.ownsRow w.heap.size 52 2 (.slice (some ⟨g, 0, none⟩) (ts.length + 2) cap) (ts.length + 2) (ndC (ts ++ [(-7, 0), (-8, 0)]))) := own_below HO3.out hb
  have HQ4 : Hid (w4.ownsRow w1.heap.size 52 2 (.slice (some ⟨g2, 0, none⟩) (ss.length + 2) cap2) (ss.length + 2) (ndC (ss ++ [(-7, 0), (-8, 0)]))) := own_below HQ3.out hb
  have HA4 : Hid (w4.ownsRow w2.heap.size 52 2 (.slice a1 R1.length c1) R1.length (ndC R1)) := own_below HA3.out hb
  have HI4 : Hid (w4.ownsRow w3.heap.size 52 2 (.slice a2 R2.length c2) R2.length (ndC R2)) := ho
  clear hb ho HO3 HQ3 HA3 HB3
  have HAB2 : Hid (∀ b, (Value.slice a2 R2.length c2).ownBlock = some b → b < w4.heap.size) := fun b hb => (HI4.out.lt b hb).2
  go_wp2_with fail
  refine (concatN_jn HN3.out _ _ _ (lent_reads HO4.out).1 (lent_reads HQ4.out).1 (by omega) (by omega) (HP.out.stay HB4.out)).mono ?_
  rintro e w5 ⟨u, rfl, ho, hb⟩
  obtain ⟨a3, c3, rfl⟩ := own_shape ho
  have HB5 : Hid (Below w.heap.size w w5) := go_on HB4.out hb
  have hs5 := hb.size
  have HO5 : Hid (w5.ownsRow w.heap.size 52 2 (.slice (some ⟨g, 0, none⟩) (ts.length + 2) cap) (ts.length + 2) (ndC (ts ++ [(-7, 0), (-8, 0)]))) := own_below HO4.out hb
  have HQ5 : Hid (w5.ownsRow w1.heap.size 52 2 (.slice (some ⟨g2, 0, none⟩) (ss.length + 2) cap2) (ss.length + 2) (ndC (ss ++ [(-7, 0), (-8, 0)]))) := own_below HQ4.out hb
  have HA5 : Hid (w5.ownsRow w2.heap.size 52 2 (.slice a1 R1.length c1) R1.length (ndC R1)) := own_below HA4.out hb
  have HI5 : Hid (w5.ownsRow w3.heap.size 52 2 (.slice a2 R2.length c2) R2.length (ndC R2)) := own_below HI4.out hb
  have HJ5 : Hid (w5.ownsRow w4.heap.size 52 2 (.slice a3 R3.length c3) R3.length (ndC R3)) := ho
  clear hb ho HO4 HQ4 HA4 HI4 HB4
  have HAB3 : Hid (∀ b, (Value.slice a3 R3.length c3).ownBlock = some b → b < w5.heap.size) := fun b hb => (HJ5.out.lt b hb).2
  go_wp2_with fail
  refine (rjoin5_jn HN1.out _ _ _ _ _ (HV.out.stay HB5.out) (HU.out.stay HB5.out) (by omega) (by omega) hcv hcu).mono ?_
  rintro e w6 ⟨u, rfl, ho, hb⟩
  obtain ⟨b1, d1, rfl⟩ := own_shape ho
  have HB6 : Hid (Below w.heap.size w w6) := go_on HB5.out hb
  have hs6 := hb.size
  have HO6 : Hid (w6.ownsRow w.heap.size 52 2 (.slice (some ⟨g, 0, none⟩) (ts.length + 2) cap) (ts.length + 2) (ndC (ts ++ [(-7, 0), (-8, 0)]))) := own_below HO5.out hb
  have HQ6 : Hid (w6.ownsRow w1.heap.size 52 2 (.slice (some ⟨g2, 0, none⟩) (ss.length + 2) cap2) (ss.length + 2) (ndC (ss ++ [(-7, 0), (-8, 0)]))) := own_below HQ5.out hb
  have HA6 : Hid (w6.ownsRow w2.heap.size 52 2 (.slice a1 R1.length c1) R1.length (ndC R1)) := own_below HA5.out hb
  have HI6 : Hid (w6.ownsRow w3.heap.size 52 2 (.slice a2 R2.length c2) R2.length (ndC R2)) := own_below HI5.out hb
  have HJ6 : Hid (w6.ownsRow w4.heap.size 52 2 (.slice a3 R3.length c3) R3.length (ndC R3)) := own_below HJ5.out hb
  have HC6 : Hid (w6.ownsRow w5.heap.size 52 2 (.slice b1 R1.length d1) R1.length (ndC R1)) := ho
  clear hb ho HO5 HQ5 HA5 HI5 HJ5 HB5
  go_wp2_with fail
  refine (rjoin6_jn HN2.out _ _ _ _ _ (HV.out.stay HB6.out) (HU.out.stay HB6.out) (by omega) (by omega) hcv hcu).mono ?_
  rintro e w7 ⟨u, rfl, ho, hb⟩
  obtain ⟨b2, d2, rfl⟩ := own_shape ho
  have HB7 : Hid (Below w.heap.size w w7) := go_on HB6.out hb
  have hs7 := hb.size
  have HO7 : Hid (w7.ownsRow w.heap.size 52 2 (.slice (some ⟨g, 0, none⟩) (ts.length + 2) cap) (ts.length + 2) (ndC (ts ++ [(-7, 0), (-8, 0)]))) := own_below HO6.out hb
  have HQ7 : Hid (w7.ownsRow w1.heap.size 52 2 (.slice (some ⟨g2, 0, none⟩) (ss.length + 2) cap2) (ss.length + 2) (ndC (ss ++ [(-7, 0), (-8, 0)]))) := own_below HQ6.out hb
  have HA7 : Hid (w7.ownsRow w2.heap.size 52 2 (.slice a1 R1.length c1) R1.length (ndC R1)) := own_below HA6.out hb
  have HI7 : Hid (w7.ownsRow w3.heap.size 52 2 (.slice a2 R2.length c2) R2.length (ndC R2)) := own_below HI6.out hb
  have HJ7 : Hid (w7.ownsRow w4.heap.size 52 2 (.slice a3 R3.length c3) R3.length (ndC R3)) := own_below HJ6.out hb
  have HC7 : Hid (w7.ownsRow w5.heap.size 52 2 (.slice b1 R1.length d1) R1.length (ndC R1)) := own_below HC6.out hb
  have HD7 : Hid (w7.ownsRow w6.heap.size 52 2 (.slice b2 R2.length d2) R2.length (ndC R2)) := ho
  clear hb ho HO6 HQ6 HA6 HI6 HJ6 HC6 HB6
  go_wp2_with fail
  refine (rjoin7_jn HN3.out _ _ _ _ _ (HV.out.stay HB7.out) (HU.out.stay HB7.out) (by omega) (by omega) hcv hcu).mono ?_
  rintro e w8 ⟨u, rfl, ho, hb⟩
  obtain ⟨b3, d3, rfl⟩ := own_shape ho
  have HB8 : Hid (Below w.heap.size w w8) := go_on HB7.out hb
  have hs8 := hb.size
  have HO8 : Hid (w8.ownsRow w.heap.size 52 2 (.slice (some ⟨g, 0, none⟩) (ts.length + 2) cap) (ts.length + 2) (ndC (ts ++ [(-7, 0), (-8, 0)]))) := own_below HO7.out hb
  have HQ8 : Hid (w8.ownsRow w1.heap.size 52 2 (.slice (some ⟨g2, 0, none⟩) (ss.length + 2) cap2) (ss.length + 2) (ndC (ss ++ [(-7, 0), (-8, 0)]))) := own_below HQ7.out hb
  have HA8 : Hid (w8.ownsRow w2.heap.size 52 2 (.slice a1 R1.length c1) R1.length (ndC R1)) := own_below HA7.out hb
  have HI8 : Hid (w8.ownsRow w3.heap.size 52 2 (.slice a2 R2.length c2) R2.length (ndC R2)) := own_below HI7.out hb
  have HJ8 : Hid (w8.ownsRow w4.heap.size 52 2 (.slice a3 R3.length c3) R3.length (ndC R3)) := own_below HJ7.out hb
  have HC8 : Hid (w8.ownsRow w5.heap.size 52 2 (.slice b1 R1.length d1) R1.length (ndC R1)) := own_below HC7.out hb
  have HD8 : Hid (w8.ownsRow w6.heap.size 52 2 (.slice b2 R2.length d2) R2.length (ndC R2)) := own_below HD7.out hb
  have HE8 : Hid (w8.ownsRow w7.heap.size 52 2 (.slice b3 R3.length d3) R3.length (ndC R3)) := ho
  clear hb ho HO7 HQ7 HA7 HI7 HJ7 HC7 HD7 HB7
  go_wp2_with fail
  refine (num5_any _ _).mono ?_
  rintro e wp ⟨rfl, rfl⟩
  go_wp2_with fail
  refine (num5_any _ _).mono ?_
  rintro e wp ⟨rfl, rfl⟩
  go_wp2_with fail
  refine (num5_any _ _).mono ?_
  rintro e wp ⟨rfl, rfl⟩
  go_wp2_with fail
  refine (stay_any _ ts _ (HV.out.stay HB8.out) _ g cap (by omega) HO8.out).mono ?_
  rintro e w9 ⟨rfl, hb⟩
  have HB9 : Hid (Below w.heap.size w w9) := go_on HB8.out hb
  have hs9 := hb.size
  have HO9 : Hid (w9.ownsRow w.heap.size 52 2 (.slice (some ⟨g, 0, none⟩) (ts.length + 2) cap) (ts.length + 2) (ndC (ts ++ [(-7, 0), (-8, 0)]))) := own_below HO8.out hb
  have HQ9 : Hid (w9.ownsRow w1.heap.size 52 2 (.slice (some ⟨g2, 0, none⟩) (ss.length + 2) cap2) (ss.length + 2) (ndC (ss ++ [(-7, 0), (-8, 0)]))) := own_below HQ8.out hb
  have HA9 : Hid (w9.ownsRow w2.heap.size 52 2 (.slice a1 R1.length c1) R1.length (ndC R1)) := own_below HA8.out hb
  have HI9 : Hid (w9.ownsRow w3.heap.size 52 2 (.slice a2 R2.length c2) R2.length (ndC R2)) := own_below HI8.out hb
  have HJ9 : Hid (w9.ownsRow w4.heap.size 52 2 (.slice a3 R3.length c3) R3.length (ndC R3)) := own_below HJ8.out hb
  have HC9 : Hid (w9.ownsRow w5.heap.size 52 2 (.slice b1 R1.length d1) R1.length (ndC R1)) := own_below HC8.out hb
  have HD9 : Hid (w9.ownsRow w6.heap.size 52 2 (.slice b2 R2.length d2) R2.length (ndC R2)) := own_below HD8.out hb
  have HE9 : Hid (w9.ownsRow w7.heap.size 52 2 (.slice b3 R3.length d3) R3.length (ndC R3)) := own_below HE8.out hb
  clear hb HO8 HQ8 HA8 HI8 HJ8 HC8 HD8 HE8 HB8
  go_wp2_with fail
  refine (stay_any _ ss _ (HU.out.stay HB9.out) _ g2 cap2 (by omega) HQ9.out).mono ?_
  rintro e w10 ⟨rfl, hb⟩
  have HB10 : Hid (Below w.heap.size w w10) := go_on HB9.out hb
  have hs10 := hb.size
  have HO10 : Hid (w10.ownsRow w.heap.size 52 2 (.slice (some ⟨g, 0, none⟩) (ts.length + 2) cap) (ts.length + 2) (ndC (ts ++ [(-7, 0), (-8, 0)]))) := own_below HO9.out hb
  have HQ10 : Hid (w10.ownsRow w1.heap.size 52 2 (.slice (some ⟨g2, 0, none⟩) (ss.length + 2) cap2) (ss.length + 2) (ndC (ss ++ [(-7, 0), (-8, 0)]))) := own_below HQ9.out hb
  have HA10 : Hid (w10.ownsRow w2.heap.size 52 2 (.slice a1 R1.length c1) R1.length (ndC R1)) := own_below HA9.out hb
  have HI10 : Hid (w10.ownsRow w3.heap.size 52 2 (.slice a2 R2.length c2) R2.length (ndC R2)) := own_below HI9.out hb
  have HJ10 : Hid (w10.ownsRow w4.heap.size 52 2 (.slice a3 R3.length c3) R3.length (ndC R3)) := own_below HJ9.out hb
  have HC10 : Hid (w10.ownsRow w5.heap.size 52 2 (.slice b1 R1.length d1) R1.length (ndC R1)) := own_below HC9.out hb
  have HD10 : Hid (w10.ownsRow w6.heap.size 52 2 (.slice b2 R2.length d2) R2.length (ndC R2)) := own_below HD9.out hb
  have HE10 : Hid (w10.ownsRow w7.heap.size 52 2 (.slice b3 R3.length d3) R3.length (ndC R3)) := own_below HE9.out hb
  clear hb HO9 HQ9 HA9 HI9 HJ9 HC9 HD9 HE9 HB9
  go_wp2_with fail
  refine (knows5_any _ (HP.out.stay HB10.out)).mono ?_
  rintro e w11 ⟨rfl, hb⟩
  have HB11 : Hid (Below w.heap.size w w11) := go_on HB10.out hb
  have hs11 := hb.size
  have HO11 : Hid (w11.ownsRow w.heap.size 52 2 (.slice (some ⟨g, 0, none⟩) (ts.length + 2) cap) (ts.length + 2) (ndC (ts ++ [(-7, 0), (-8, 0)]))) := own_below HO10.out hb
  have HQ11 : Hid (w11.ownsRow w1.heap.size 52 2 (.slice (some ⟨g2, 0, none⟩) (ss.length + 2) cap2) (ss.length + 2) (ndC (ss ++ [(-7, 0), (-8, 0)]))) := own_below HQ10.out hb
  have HA11 : Hid (w11.ownsRow w2.heap.size 52 2 (.slice a1 R1.length c1) R1.length (ndC R1)) := own_below HA10.out hb
  have HI11 : Hid (w11.ownsRow w3.heap.size 52 2 (.slice a2 R2.length c2) R2.length (ndC R2)) := own_below HI10.out hb
  have HJ11 : Hid (w11.ownsRow w4.heap.size 52 2 (.slice a3 R3.length c3) R3.length (ndC R3)) := own_below HJ10.out hb
  have HC11 : Hid (w11.ownsRow w5.heap.size 52 2 (.slice b1 R1.length d1) R1.length (ndC R1)) := own_below HC10.out hb
  have HD11 : Hid (w11.ownsRow w6.heap.size 52 2 (.slice b2 R2.length d2) R2.length (ndC R2)) := own_below HD10.out hb
  have HE11 : Hid (w11.ownsRow w7.heap.size 52 2 (.slice b3 R3.length d3) R3.length (ndC R3)) := own_below HE10.out hb
  clear hb HO10 HQ10 HA10 HI10 HJ10 HC10 HD10 HE10 HB10
  go_wp2_with fail
  refine (spoil_any w.heap.size g (ts.length + 2) ts.length cap (ts ++ [(-7, 0), (-8, 0)]) _ HO11.out (by simp) (by omega) (by omega) cap).mono ?_
  rintro e w12 ⟨rfl, hg⟩
  have hgb12 := HO11.out.lt g rfl
  have HB12 : Hid (Below w.heap.size w w12) := HB11.out.grown hg HB11.out.size (fun k hk => by simp only [Option.some.injEq] at hk; omega)
  have hs12 := hg.size
  have HQ12 : Hid (w12.ownsRow w1.heap.size 52 2 (.slice (some ⟨g2, 0, none⟩) (ss.length + 2) cap2) (ss.length + 2) (ndC (ss ++ [(-7, 0), (-8, 0)]))) := own_of_heap HQ11.out (fun b hb => hg.block b (HQ11.out.lt b hb).2 (fun e => by simp only [Option.some.injEq] at e; have x := (HQ11.out.lt b hb).1; have y := hg0; omega))
  have HA12 : Hid (w12.ownsRow w2.heap.size 52 2 (.slice a1 R1.length c1) R1.length (ndC R1)) := own_of_heap HA11.out (fun b hb => hg.block b (HA11.out.lt b hb).2 (fun e => by simp only [Option.some.injEq] at e; have x := (HA11.out.lt b hb).1; have y := hg0; omega))
  have HI12 : Hid (w12.ownsRow w3.heap.size 52 2 (.slice a2 R2.length c2) R2.length (ndC R2)) := own_of_heap HI11.out (fun b hb => hg.block b (HI11.out.lt b hb).2 (fun e => by simp only [Option.some.injEq] at e; have x := (HI11.out.lt b hb).1; have y := hg0; omega))
  have HJ12 : Hid (w12.ownsRow w4.heap.size 52 2 (.slice a3 R3.length c3) R3.length (ndC R3)) := own_of_heap HJ11.out (fun b hb => hg.block b (HJ11.out.lt b hb).2 (fun e => by simp only [Option.some.injEq] at e; have x := (HJ11.out.lt b hb).1; have y := hg0; omega))
  have HC12 : Hid (w12.ownsRow w5.heap.size 52 2 (.slice b1 R1.length d1) R1.length (ndC R1)) := own_of_heap HC11.out (fun b hb => hg.block b (HC11.out.lt b hb).2 (fun e => by simp only [Option.some.injEq] at e; have x := (HC11.out.lt b hb).1; have y := hg0; omega))
  have HD12 : Hid (w12.ownsRow w6.heap.size 52 2 (.slice b2 R2.length d2) R2.length (ndC R2)) := own_of_heap HD11.out (fun b hb => hg.block b (HD11.out.lt b hb).2 (fun e => by simp only [Option.some.injEq] at e; have x := (HD11.out.lt b hb).1; have y := hg0; omega))
  have HE12 : Hid (w12.ownsRow w7.heap.size 52 2 (.slice b3 R3.length d3) R3.length (ndC R3)) := own_of_heap HE11.out (fun b hb => hg.block b (HE11.out.lt b hb).2 (fun e => by simp only [Option.some.injEq] at e; have x := (HE11.out.lt b hb).1; have y := hg0; omega))
  clear hg HO11 HQ11 HA11 HI11 HJ11 HC11 HD11 HE11 HB11
  go_wp2_with fail
  refine (spoil_any w1.heap.size g2 (ss.length + 2) ss.length cap2 (ss ++ [(-7, 0), (-8, 0)]) _ HQ12.out (by simp) (by omega) (by omega) cap2).mono ?_
  rintro e w13 ⟨rfl, hg⟩
  have hgb13 := HQ12.out.lt g2 rfl
  have HB13 : Hid (Below w.heap.size w w13) := HB12.out.grown hg HB12.out.size (fun k hk => by simp only [Option.some.injEq] at hk; omega)
  have hs13 := hg.size
  have HA13 : Hid (w13.ownsRow w2.heap.size 52 2 (.slice a1 R1.length c1) R1.length (ndC R1)) := own_of_heap HA12.out (fun b hb => hg.block b (HA12.out.lt b hb).2 (fun e => by simp only [Option.some.injEq] at e; have x := (HA12.out.lt b hb).1; have y := hg2; omega))
  have HI13 : Hid (w13.ownsRow w3.heap.size 52 2 (.slice a2 R2.length c2) R2.length (ndC R2)) := own_of_heap HI12.out (fun b hb => hg.block b (HI12.out.lt b hb).2 (fun e => by simp only [Option.some.injEq] at e; have x := (HI12.out.lt b hb).1; have y := hg2; omega))
  have HJ13 : Hid (w13.ownsRow w4.heap.size 52 2 (.slice a3 R3.length c3) R3.length (ndC R3)) := own_of_heap HJ12.out (fun b hb => hg.block b (HJ12.out.lt b hb).2 (fun e => by simp only [Option.some.injEq] at e; have x := (HJ12.out.lt b hb).1; have y := hg2; omega))
  have HC13 : Hid (w13.ownsRow w5.heap.size 52 2 (.slice b1 R1.length d1) R1.length (ndC R1)) := own_of_heap HC12.out (fun b hb => hg.block b (HC12.out.lt b hb).2 (fun e => by simp only [Option.some.injEq] at e; have x := (HC12.out.lt b hb).1; have y := hg2; omega))
  have HD13 : Hid (w13.ownsRow w6.heap.size 52 2 (.slice b2 R2.length d2) R2.length (ndC R2)) := own_of_heap HD12.out (fun b hb => hg.block b (HD12.out.lt b hb).2 (fun e => by simp only [Option.some.injEq] at e; have x := (HD12.out.lt b hb).1; have y := hg2; omega))
  have HE13 : Hid (w13.ownsRow w7.heap.size 52 2 (.slice b3 R3.length d3) R3.length (ndC R3)) := own_of_heap HE12.out (fun b hb => hg.block b (HE12.out.lt b hb).2 (fun e => by simp only [Option.some.injEq] at e; have x := (HE12.out.lt b hb).1; have y := hg2; omega))
  clear hg HQ12 HA12 HI12 HJ12 HC12 HD12 HE12 HB12
  go_wp2_with fail
  refine (same_any _ _ R1 R1 _ (own_nreads HA13.out) (own_nreads HC13.out) (by omega)).mono ?_
  rintro e w14 ⟨rfl, hb⟩
  rw [decide_eq_true (Eq.refl R1)]
  have HB14 : Hid (Below w.heap.size w w14) := go_on HB13.out hb
  have hs14 := hb.size
  have HA14 : Hid (w14.ownsRow w2.heap.size 52 2 (.slice a1 R1.length c1) R1.length (ndC R1)) := own_below HA13.out hb
  have HI14 : Hid (w14.ownsRow w3.heap.size 52 2 (.slice a2 R2.length c2) R2.length (ndC R2)) := own_below HI13.out hb
  have HJ14 : Hid (w14.ownsRow w4.heap.size 52 2 (.slice a3 R3.length c3) R3.length (ndC R3)) := own_below HJ13.out hb
  have HC14 : Hid (w14.ownsRow w5.heap.size 52 2 (.slice b1 R1.length d1) R1.length (ndC R1)) := own_below HC13.out hb
  have HD14 : Hid (w14.ownsRow w6.heap.size 52 2 (.slice b2 R2.length d2) R2.length (ndC R2)) := own_below HD13.out hb
  have HE14 : Hid (w14.ownsRow w7.heap.size 52 2 (.slice b3 R3.length d3) R3.length (ndC R3)) := own_below HE13.out hb
  clear hb HA13 HI13 HJ13 HC13 HD13 HE13 HB13
  go_wp2_with fail
  refine (same_any _ _ R2 R2 _ (own_nreads HI14.out) (own_nreads HD14.out) (by omega)).mono ?_
  rintro e w15 ⟨rfl, hb⟩
  rw [decide_eq_true (Eq.refl R2)]
  have HB15 : Hid (Below w.heap.size w w15) := go_on HB14.out hb
  have hs15 := hb.size
  have HA15 : Hid (w15.ownsRow w2.heap.size 52 2 (.slice a1 R1.length c1) R1.length (ndC R1)) := own_below HA14.out hb
  have HI15 : Hid (w15.ownsRow w3.heap.size 52 2 (.slice a2 R2.length c2) R2.length (ndC R2)) := own_below HI14.out hb
  have HJ15 : Hid (w15.ownsRow w4.heap.size 52 2 (.slice a3 R3.length c3) R3.length (ndC R3)) := own_below HJ14.out hb
  have HC15 : Hid (w15.ownsRow w5.heap.size 52 2 (.slice b1 R1.length d1) R1.length (ndC R1)) := own_below HC14.out hb
  have HD15 : Hid (w15.ownsRow w6.heap.size 52 2 (.slice b2 R2.length d2) R2.length (ndC R2)) := own_below HD14.out hb
  have HE15 : Hid (w15.ownsRow w7.heap.size 52 2 (.slice b3 R3.length d3) R3.length (ndC R3)) := own_below HE14.out hb
  clear hb HA14 HI14 HJ14 HC14 HD14 HE14 HB14
  go_wp2_with fail
  refine (same_any _ _ R3 R3 _ (own_nreads HJ15.out) (own_nreads HE15.out) (by omega)).mono ?_
  rintro e w16 ⟨rfl, hb⟩
  rw [decide_eq_true (Eq.refl R3)]
  have HB16 : Hid (Below w.heap.size w w16) := go_on HB15.out hb
  have hs16 := hb.size
  have HA16 : Hid (w16.ownsRow w2.heap.size 52 2 (.slice a1 R1.length c1) R1.length (ndC R1)) := own_below HA15.out hb
  have HI16 : Hid (w16.ownsRow w3.heap.size 52 2 (.slice a2 R2.length c2) R2.length (ndC R2)) := own_below HI15.out hb
  have HJ16 : Hid (w16.ownsRow w4.heap.size 52 2 (.slice a3 R3.length c3) R3.length (ndC R3)) := own_below HJ15.out hb
  have HC16 : Hid (w16.ownsRow w5.heap.size 52 2 (.slice b1 R1.length d1) R1.length (ndC R1)) := own_below HC15.out hb
  have HD16 : Hid (w16.ownsRow w6.heap.size 52 2 (.slice b2 R2.length d2) R2.length (ndC R2)) := own_below HD15.out hb
  have HE16 : Hid (w16.ownsRow w7.heap.size 52 2 (.slice b3 R3.length d3) R3.length (ndC R3)) := own_below HE15.out hb
  clear hb HA15 HI15 HJ15 HC15 HD15 HE15 HB15
  have hww : w.heap.size ≤ w1.heap.size := hww0
  go_wp2_with fail
  have hTold : Told (w16.alloc (.cells #[.slice a1 R1.length c1, .slice a2 R2.length c2, .slice a3 R3.length c3] 22)) w1.heap.size w16.heap.size [.slice a1 R1.length c1, .slice a2 R2.length c2, .slice a3 R3.length c3] [R1, R2, R3] := by
    refine ⟨rfl, heap_alloc_new w16 _, by omega, fun j hj => ?_, fun j j2 hj hj2 hne b hb hb2 => ?_⟩
    · have hj : j < 3 := hj
      have hc : j = 0 ∨ j = 1 ∨ j = 2 := by omega
      rcases hc with rfl | rfl | rfl
      · exact own_mono (HA16.out.alloc _) (by omega)
      · exact own_mono (HI16.out.alloc _) (by omega)
      · exact own_mono (HJ16.out.alloc _) (by omega)
    · have hj : j < 3 := hj
      have hj2 : j2 < 3 := hj2
      have hc : (j = 0 ∧ j2 = 1) ∨ (j = 0 ∧ j2 = 2) ∨ (j = 1 ∧ j2 = 0) ∨ (j = 1 ∧ j2 = 2) ∨ (j = 2 ∧ j2 = 0) ∨ (j = 2 ∧ j2 = 1) := by omega
      rcases hc with ⟨rfl, rfl⟩ | ⟨rfl, rfl⟩ | ⟨rfl, rfl⟩ | ⟨rfl, rfl⟩ | ⟨rfl, rfl⟩ | ⟨rfl, rfl⟩
      · have x := HAB1.out b hb; have y := (HI16.out.lt b hb2).1; omega
      · have x := HAB1.out b hb; have y := (HJ16.out.lt b hb2).1; omega
      · have x := HAB1.out b hb2; have y := (HI16.out.lt b hb).1; omega
      · have x := HAB2.out b hb; have y := (HJ16.out.lt b hb2).1; omega
      · have x := HAB1.out b hb2; have y := (HJ16.out.lt b hb).1; omega
      · have x := HAB2.out b hb2; have y := (HJ16.out.lt b hb).1; omega
  have HBl : Hid (Below w.heap.size w (w16.alloc (.cells #[.slice a1 R1.length c1, .slice a2 R2.length c2, .slice a3 R3.length c3] 22))) := HB16.out.alloc HB16.out.size _
  refine (apart_told hTold 3 (by simp; omega) (by simp) (by simp) (fun j hj => by
    have hj : j < 3 := hj
    have hc : j = 0 ∨ j = 1 ∨ j = 2 := by omega
    rcases hc with rfl | rfl | rfl
    · show R1.length ≤ 1048576; omega
    · show R2.length ≤ 1048576; omega
    · show R3.length ≤ 1048576; omega)).mono ?_
  rintro e wz ⟨rfl, hbz⟩
  have HBZ : Hid (Below w.heap.size w wz) := HBl.out.trans (hbz.mono hww)
  clear hbz hTold
  go_wp2_with fail
  go_ret
  exact ⟨rfl, HBZ.out⟩

/-! ### The row's step -/
theorem own : ownKnob Tryd.prog.godebug = none := by kernel_rfl
def laid1 : List (String × DataW Unit) := [("eggbox/tree.partsOf", Rows.laid_eggbox_tree_partsOf)]
def tabZ : List Int := [0, 0, 0, 0, 0, 2, 2, 2, 1, 1]
theorem gTab : Tryd.prog.globalNamed "eggbox/tree.partsOf" = some 0 := by kernel_rfl
theorem tTab : (Tryd.prog.globals[0]?).map (·.type) = some 104 := by kernel_rfl
theorem of_laid {W : World} (h : laidMetH Tryd.prog laid1 W) : PTab W := by
  rw [MakeChecks.laidMetH_plain _ _ _ (by kernel_rfl)] at h
  have ht : Lib.TabIs Tryd.prog W "eggbox/tree.partsOf" .i64 tabZ :=
    Lib.tabIs_of_head (rest := []) gTab tTab Tryd.underlying104 Tryd.underlying3 (by kernel_rfl) (by kernel_rfl) h
  intro j hj
  have := ht.cell gTab j hj
  rw [this]
  have hc : j = 0 ∨ j = 1 ∨ j = 2 ∨ j = 3 ∨ j = 4 ∨ j = 5 ∨ j = 6 ∨ j = 7 ∨ j = 8 ∨ j = 9 := by omega
  rcases hc with rfl | rfl | rfl | rfl | rfl | rfl | rfl | rfl | rfl | rfl <;> rfl
/-- The door's own heap meets the condition. -/
theorem door_met (os : Os) (args : Array Value) : laidMetH Tryd.prog laid1 ((World.doorLaid Tryd.prog 400 os).forCall (fun _ _ => 0) ⟨#[], args, []⟩).memory :=
  laidMetH_of_parts3 (fuel := 8) (laidMet_of_run' 8 (by kernel_rfl) (by kernel_rfl)) (by kernel_rfl) (by kernel_rfl)

set_option maxRecDepth 100000 in
theorem lifted (os : Os) (started : os.Started) (H : Type) (enc : TypeId × Value → H) :
    ReturnsInHanded {} Tryd.checked os 4 .any (fun w args => (Rows.normJoinsSpec.pre enc Tryd.prog Tryd.f4 [] false w args ∧ laidMetH Tryd.prog laid1 w) ∧ sizedMet enc Tryd.prog Tryd.f4 (OpenSpec.ofChange Rows.normJoinsSpec) false w args)
      (Rows.normJoinsSpec.post enc Tryd.prog Tryd.f4 false true false false) := by
  refine returnsInHanded_of_change_and (C := Tryd.checked) (X := fun w _ => laidMetH Tryd.prog laid1 w) (fun _ _ _ hh h => h.of_heap hh) own started (by kernel_rfl) Tryd.func4
    (ChangeSpec.witness_shaped (enc := enc) (C := Tryd.checked) (os := os) (X := fun w _ => laidMetH Tryd.prog laid1 w) false (World.doorLaid Tryd.prog 400 os) #[.slice none 0 0, .slice none 0 0] 8 rfl (World.shaped_of_RefB (by kernel_rfl) (by kernel_rfl)) (by kernel_rfl) (by kernel_rfl) (by kernel_rfl) (door_met os _)) ?_
  intro W base args ds gs before hval0 hW _ hsz0 hL _
  have hval : ∀ (j : Nat) t v, Tryd.f4.params[j]? = some t → args[j]? = some v → Value.okWide Tryd.prog W .any base t v := hval0
  have hW' := hW
  obtain ⟨p, q, hA0, hV, rfl, hfz, hnd⟩ := hW
  have hA : DataW.TrodAll enc Tryd.prog W 0 (fun _ => true) true Tryd.f4.params.toList args.toList ds p := hA0
  have hsz : (DataW.weightsEach Tryd.prog (Tryd.f4.params.toList ++ Rows.normJoinsSpec.plain.varTypes Tryd.prog) (ds ++ gs)).all (· ≤ reachBytes) = true := hsz0
  rw [Tryd.params4] at hA hval hsz
  obtain ⟨v0, vs0, d0, ds0, p0, q0, hargs, rfl, rfl, h0, r0⟩ := trodAll_cons hA
  obtain ⟨v1, vs1, d1, ds1, p1, q1, rfl, rfl, rfl, h1, r1⟩ := trodAll_cons r0
  obtain ⟨rfl, rfl, rfl⟩ := trodAll_nil r1
  obtain rfl : args = #[v0, v1] := by cases args; simp_all
  obtain ⟨rfl, rfl⟩ := trodVars_none hV
  obtain ⟨a0, w0, x0, y0⟩ := open_nodes (hval 0 22 v0 rfl rfl) h0
  have s0 : (a0.length + 2) * 16 ≤ 140737488355328 := by
    rcases y0 with ⟨_, rfl⟩ | ⟨e, s, rfl, hy⟩
    · decide
    · have := sized_slice hsz (j := 0) (t := 22) rfl rfl Tryd.underlying22
      rw [Tryd.bytes_node] at this
      simp only [reachBytes] at this
      omega
  have z0 : a0.length ≤ 9223372036854775806 := by omega
  have g0 : ∀ x ∈ p0, x.block < W.heap.size := fun x hx => hW'.lt x (by simp [hx])
  obtain ⟨a1, w1, x1, y1⟩ := open_nodes (hval 1 22 v1 rfl rfl) h1
  have s1 : (a1.length + 2) * 16 ≤ 140737488355328 := by
    rcases y1 with ⟨_, rfl⟩ | ⟨e, s, rfl, hy⟩
    · decide
    · have := sized_slice hsz (j := 1) (t := 22) rfl rfl Tryd.underlying22
      rw [Tryd.bytes_node] at this
      simp only [reachBytes] at this
      omega
  have z1 : a1.length ≤ 9223372036854775806 := by omega
  have g1 : ∀ x ∈ p1, x.block < W.heap.size := fun x hx => hW'.lt x (by simp [hx])
  have hTz := of_laid hL
  clear hA0 hval0
  refine (walk v0 a0 v1 a1 W w0 x0 s0 w1 x1 s1 hTz).mono fun e W' ⟨he, bel⟩ => ?_
  subst he
  exact ⟨_, rfl, _, _, _, [], _, [], hW', trodAll_mk1 (shut_bool Tryd.underlying4 _), (trodAll_cons_mk (Below.trod Tryd.laidOut (by kernel_rfl) (of_decide_eq_true (by kernel_rfl)) h0 bel g0) (trodAll_cons_mk (Below.trod Tryd.laidOut (by kernel_rfl) (of_decide_eq_true (by kernel_rfl)) h1 bel g1) trodAll_mk0)), rfl, bel.frame _, fun h => by cases h⟩

theorem over : Rows.NormJoinsSaid :=
  OpenClaim.holds_of_wide 4 Tryd.f4 rfl rfl rfl rfl rfl rfl rfl ⟨rfl, rfl, rfl, rfl, rfl⟩ rfl rfl rfl rfl rfl (by kernel_rfl) Tryd.func4 (by kernel_rfl)
    (of_decide_eq_true (by kernel_rfl)) (by unfold Func.isWrapper; first | (rw [if_pos (by decide +kernel)]; kernel_rfl) | (rw [if_neg (by decide +kernel)]; exact ⟨rfl, rfl⟩))
    (fun os started H enc _ => lifted os started H enc)

theorem card : Rows.NormJoinsCardSaid :=
  Claim7.holds_tied_plain_at .later [] [.data] true (true, "b414daad54b9d0b08494abd64e408f62d117ebfe8175e1cfde69e226fd2cc268") false
    over (fun _ h => by cases h) (by kernel_rfl) (fun _ h => by cases h) normJoins_row_tie rfl ⟨rfl, rfl⟩ (by kernel_rfl) rfl
    (fun f fn hf hfn => by
      obtain rfl : f = 4 := Option.some.inj ((show Tryd.prog.funcNamed "eggbox/eggboxlaw05.NormJoins" = some 4 by kernel_rfl).symm.trans hf) |>.symm
      obtain rfl : fn = Tryd.f4 := (Option.some.inj (Tryd.func4.symm.trans hfn)).symm
      exact ⟨by kernel_rfl, fun j t ht => by
        rw [Tryd.params4] at ht
        have hm : t ∈ [22, 22] := by simpa using Array.mem_of_getElem? ht
        have hall : ([22, 22].all fun u => !Tryd.prog.wantsStandIn u) = true := by kernel_rfl
        exact (show Tryd.prog.wantsStandIn t = false by simpa using List.all_eq_true.1 hall t hm)⟩)
    (by kernel_rfl)

end Go.Proofs.YtdmjcfecahcdnaaDoor.normJoins
namespace Go.Proofs.YtdmjcfecahcdnaaDoor
/-- The given statement. -/
theorem normJoins_holds : Rows.NormJoinsCardSaid := normJoins.card
end Go.Proofs.YtdmjcfecahcdnaaDoor
