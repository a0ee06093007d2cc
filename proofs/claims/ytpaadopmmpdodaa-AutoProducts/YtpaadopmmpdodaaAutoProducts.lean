/- Proved: eggboxlaw08.AutoProducts answers true at all automata's data a and b (P8.7): auto.Both, Either and But answer what the document's Product answers; what is handed in stays; its arguments read behind the call as before. -/
import Derived.Test.YtpaadopmmpdodaaJu
import Derived.Test.YtpaadopmmpdodaaQt
import Derived.Deep.RegionHeld3
namespace Go.Proofs.Ytpaadopmmpdodaa.autoProducts
open Go Go.ChangeShapes Go.WideShapes Go.ChangeAt Go.RowKit Go.Lib
open Go.ChangeMaps (open_string shut_string)
set_option linter.unusedVariables false
attribute [-instance] instBEqProd

theorem prA_len (f : Bool → Bool → Bool) (A B : Aut) : (prA f A B).nx.length ≤ 32768 ∧ (prA f A B).ac.length ≤ 4096 := by
  unfold prA
  split
  · rename_i h0
    have hk := (twE_zero h0).1.kn
    split
    · rename_i m n hb
      obtain ⟨b1, b2⟩ := bfs_sure ⟨hk.1, hk.2.1⟩ hb
      have h1 := b1.most
      have h2 := Nat.mul_le_mul h1 hk.2.1
      simp only [List.length_map]
      omega
    · simp [zAut]
  · simp [zAut]

set_option maxHeartbeats 16000000 in
set_option maxRecDepth 100000 in
theorem walk (va : Value) (A : Aut) (vb : Value) (B : Aut) (w : World) (ha : AR w va A) (hna : NilOk va) (hma : (A.nx.length + 2) * 8 ≤ 140737488355328) (hma2 : A.ac.length ≤ 140737488355328) (hb : AR w vb B) (hnb : NilOk vb) (hmb : (B.nx.length + 2) * 8 ≤ 140737488355328) (hmb2 : B.ac.length ≤ 140737488355328) :
    Calls Try.prog 6 #[va, vb] w fun e w' => e = .returned (.bool true) ∧ Below w.heap.size w w' := by
  obtain ⟨an, cn, aa, ca, ea, _, _⟩ := ha.is
  obtain ⟨bn, dn, ba, da, eb, _, _⟩ := hb.is
  have HAA : Hid (∀ w', Below w.heap.size w w' → AR w' va A) := fun w' h => ha.stay h
  have HAB : Hid (∀ w', Below w.heap.size w w' → AR w' vb B) := fun w' h => hb.stay h
  have HLA : Hid (∀ w', Below w.heap.size w w' → Calls Try.prog 7 #[va] w' (LQ A w')) := fun w' h => lentAuto_any va A w' (ha.stay h) hna hma hma2
  have HLB : Hid (∀ w', Below w.heap.size w w' → Calls Try.prog 7 #[vb] w' (LQ B w')) := fun w' h => lentAuto_any vb B w' (hb.stay h) hnb hmb hmb2
  have hA1 : A.nx.length ≤ 9223372036854775806 := by omega
  have hA2 : A.ac.length ≤ 9223372036854775806 := by omega
  have hB1 : B.nx.length ≤ 9223372036854775806 := by omega
  have hB2 : B.ac.length ≤ 9223372036854775806 := by omega
  have HMA : Hid (A.nx.length + 2 ≤ 9223372036854775806 ∧ B.nx.length + 2 ≤ 9223372036854775806) := ⟨by omega, by omega⟩
  clear ha hb hna hnb hma hma2 hmb hmb2
  subst ea eb
  obtain ⟨V, hV⟩ : ∃ V, V = ((w.alloc (.cells #[.int .i64 A.k, .slice an A.nx.length cn, .slice aa A.ac.length ca] 25)).alloc (.cells #[.int .i64 B.k, .slice bn B.nx.length dn, .slice ba B.ac.length da] 25)) := ⟨_, rfl⟩
  have HVE : Hid (V = ((w.alloc (.cells #[.int .i64 A.k, .slice an A.nx.length cn, .slice aa A.ac.length ca] 25)).alloc (.cells #[.int .i64 B.k, .slice bn B.nx.length dn, .slice ba B.ac.length da] 25))) := hV
  have HBV : Hid (Below w.heap.size w V) := by show Below _ _ _; rw [hV]; exact go_on (below_new _ _) (below_new _ _)
  have RA : RowAt V w.heap.size #[.int .i64 A.k, .slice an A.nx.length cn, .slice aa A.ac.length ca] := by rw [hV]; exact (RowAt.last _ _ _).alloc _
  have RB : RowAt V (w.heap.size + 1) #[.int .i64 B.k, .slice bn B.nx.length dn, .slice ba B.ac.length da] := by
    rw [hV]
    have := RowAt.last (w.alloc (.cells #[.int .i64 A.k, .slice an A.nx.length cn, .slice aa A.ac.length ca] 25)) #[.int .i64 B.k, .slice bn B.nx.length dn, .slice ba B.ac.length da] 25
    simpa using this
  have HRA : Hid (RowAt V w.heap.size #[.int .i64 A.k, .slice an A.nx.length cn, .slice aa A.ac.length ca]) := RA
  have HRB : Hid (RowAt V (w.heap.size + 1) #[.int .i64 B.k, .slice bn B.nx.length dn, .slice ba B.ac.length da]) := RB
  clear hV RA RB
  go_enter Try.func6, Try.ntmps6
  go_wp2_with fail
  rw [← HVE.out]
  refine (HLA.out _ HBV.out).mono ?_
  rintro e w1 ⟨g, gc, xa, xc, rfl, hi1, hb1, hl1⟩
  have HI1 : Hid (w1.ownsRow V.heap.size 3 1 (.slice (some ⟨g, 0, none⟩) (A.nx.length + 2) gc) (A.nx.length + 2) (zC (A.nx ++ [-77, -78]))) := hi1
  have HO1 : Hid (w1.ownsRow V.heap.size 4 1 (.slice xa A.ac.length xc) A.ac.length (bC A.ac)) := hb1
  have HB1 : Hid (Below V.heap.size V w1) := hl1
  have cs1 : ∀ O o, (w1.alloc O).cell? ⟨w.heap.size + 1, o, none⟩ = (#[.int .i64 B.k, .slice bn B.nx.length dn, .slice ba B.ac.length da] : Array Value)[o]? := fun O => ((HRB.out.stay hl1).alloc O).cell
  clear hi1 hb1 hl1 HLA
  go_wp2_with fail
  refine (HLB.out _ (go_on (go_on HBV.out HB1.out) (below_new _ _))).mono ?_
  rintro e w2 ⟨h, hc, ya, yc, rfl, hi2, hb2, hl2⟩
  have HI2 : Hid (w2.ownsRow (w1.alloc (.cells #[.int .i64 A.k, .slice (some ⟨g, 0, none⟩) A.nx.length gc, .slice xa A.ac.length xc] 25)).heap.size 3 1 (.slice (some ⟨h, 0, none⟩) (B.nx.length + 2) hc) (B.nx.length + 2) (zC (B.nx ++ [-77, -78]))) := hi2
  have HO2 : Hid (w2.ownsRow (w1.alloc (.cells #[.int .i64 A.k, .slice (some ⟨g, 0, none⟩) A.nx.length gc, .slice xa A.ac.length xc] 25)).heap.size 4 1 (.slice ya B.ac.length yc) B.ac.length (bC B.ac)) := hb2
  have HG2 : Hid (Below (w1.alloc (.cells #[.int .i64 A.k, .slice (some ⟨g, 0, none⟩) A.nx.length gc, .slice xa A.ac.length xc] 25)).heap.size (w1.alloc (.cells #[.int .i64 A.k, .slice (some ⟨g, 0, none⟩) A.nx.length gc, .slice xa A.ac.length xc] 25)) w2) := hl2
  have HB2 : Hid (Below V.heap.size V w2) := go_on (go_on HB1.out (below_new _ _)) hl2
  have HRX2 : Hid (RowAt w2 w1.heap.size #[.int .i64 A.k, .slice (some ⟨g, 0, none⟩) A.nx.length gc, .slice xa A.ac.length xc]) := (RowAt.last _ _ _).stay hl2
  clear hi2 hb2 hl2 HLB cs1
  obtain ⟨W, hW⟩ : ∃ W, W = (w2.alloc (.cells #[.int .i64 B.k, .slice (some ⟨h, 0, none⟩) B.nx.length hc, .slice ya B.ac.length yc] 25)) := ⟨_, rfl⟩
  have HWE : Hid (W = (w2.alloc (.cells #[.int .i64 B.k, .slice (some ⟨h, 0, none⟩) B.nx.length hc, .slice ya B.ac.length yc] 25))) := hW
  have E2 : Below w2.heap.size w2 W := by rw [hW]; exact below_new _ _
  have E1 := go_on (go_on (below_new w1 (.cells #[.int .i64 A.k, .slice (some ⟨g, 0, none⟩) A.nx.length gc, .slice xa A.ac.length xc] 25)) HG2.out) E2
  have HBW : Hid (Below w.heap.size w W) := go_on (go_on HBV.out HB2.out) E2
  have HRX : Hid (RowAt W w1.heap.size #[.int .i64 A.k, .slice (some ⟨g, 0, none⟩) A.nx.length gc, .slice xa A.ac.length xc]) := HRX2.out.stay E2
  have HRY : Hid (RowAt W w2.heap.size #[.int .i64 B.k, .slice (some ⟨h, 0, none⟩) B.nx.length hc, .slice ya B.ac.length yc]) := by show RowAt _ _ _; rw [hW]; exact RowAt.last _ _ _
  have HRAW : Hid (RowAt W w.heap.size #[.int .i64 A.k, .slice an A.nx.length cn, .slice aa A.ac.length ca]) := HRA.out.stay (go_on HB2.out E2)
  have HRBW : Hid (RowAt W (w.heap.size + 1) #[.int .i64 B.k, .slice bn B.nx.length dn, .slice ba B.ac.length da]) := HRB.out.stay (go_on HB2.out E2)
  have HX : Hid (∀ y, Below W.heap.size W y → AR y (.agg #[.int .i64 A.k, .slice (some ⟨g, 0, none⟩) A.nx.length gc, .slice xa A.ac.length xc]) A) := fun y hy => ⟨_, _, _, _, rfl, ((lent_sr HI1.out).stay E1).stay hy, ((own_sr HO1.out).stay E1).stay hy⟩
  have HY : Hid (∀ y, Below W.heap.size W y → AR y (.agg #[.int .i64 B.k, .slice (some ⟨h, 0, none⟩) B.nx.length hc, .slice ya B.ac.length yc]) B) := fun y hy => ⟨_, _, _, _, rfl, ((lent_sr HI2.out).stay E2).stay hy, ((own_sr HO2.out).stay E2).stay hy⟩
  have HSX : Hid (∀ y, Below W.heap.size W y → Calls Try.prog 15 #[.agg #[.int .i64 A.k, .slice (some ⟨g, 0, none⟩) A.nx.length gc, .slice xa A.ac.length xc], .agg #[.int .i64 A.k, .slice an A.nx.length cn, .slice aa A.ac.length ca]] y fun e w' => e = .returned (.bool true) ∧ Below y.heap.size y w') := fun y hy =>
    stay8_any A y _ (HAA.out y (go_on HBW.out hy)) _ g gc xa xc HMA.out.1 hA2 (own_below (own_below HI1.out E1) hy) (((own_sr HO1.out).stay E1).stay hy)
  have HSY : Hid (∀ y, Below W.heap.size W y → Calls Try.prog 15 #[.agg #[.int .i64 B.k, .slice (some ⟨h, 0, none⟩) B.nx.length hc, .slice ya B.ac.length yc], .agg #[.int .i64 B.k, .slice bn B.nx.length dn, .slice ba B.ac.length da]] y fun e w' => e = .returned (.bool true) ∧ Below y.heap.size y w') := fun y hy =>
    stay8_any B y _ (HAB.out y (go_on HBW.out hy)) _ h hc ya yc HMA.out.2 hB2 (own_below (own_below HI2.out E2) hy) (((own_sr HO2.out).stay E2).stay hy)
  obtain ⟨P1, hP1⟩ : ∃ P, prA (fun x z => x && z) A B = P := ⟨_, rfl⟩
  have HLP1 : Hid (P1.nx.length ≤ 32768 ∧ P1.ac.length ≤ 4096) := by rw [← hP1]; exact prA_len _ A B
  obtain ⟨P2, hP2⟩ : ∃ P, prA (fun x z => x || z) A B = P := ⟨_, rfl⟩
  have HLP2 : Hid (P2.nx.length ≤ 32768 ∧ P2.ac.length ≤ 4096) := by rw [← hP2]; exact prA_len _ A B
  obtain ⟨P3, hP3⟩ : ∃ P, prA (fun x z => x && !z) A B = P := ⟨_, rfl⟩
  have HLP3 : Hid (P3.nx.length ≤ 32768 ∧ P3.ac.length ≤ 4096) := by rw [← hP3]; exact prA_len _ A B
  obtain ⟨E, hE⟩ : ∃ E, prE A B = E := ⟨_, rfl⟩
  have C3 : Hid (∀ y, Below W.heap.size W y → Calls Try.prog 27 #[.agg #[.int .i64 A.k, .slice (some ⟨g, 0, none⟩) A.nx.length gc, .slice xa A.ac.length xc], .agg #[.int .i64 B.k, .slice (some ⟨h, 0, none⟩) B.nx.length hc, .slice ya B.ac.length yc]] y (FQ P1 E y)) := fun y hy => by rw [← hP1, ← hE]; exact both_any _ _ A B y (HX.out y hy) (HY.out y hy) hA1 hA2 hB1 hB2
  have C4 : Hid (∀ y, Below W.heap.size W y → Calls Try.prog 28 #[.agg #[.int .i64 A.k, .slice (some ⟨g, 0, none⟩) A.nx.length gc, .slice xa A.ac.length xc], .agg #[.int .i64 B.k, .slice (some ⟨h, 0, none⟩) B.nx.length hc, .slice ya B.ac.length yc]] y (FQ P2 E y)) := fun y hy => by rw [← hP2, ← hE]; exact either_any _ _ A B y (HX.out y hy) (HY.out y hy) hA1 hA2 hB1 hB2
  have C5 : Hid (∀ y, Below W.heap.size W y → Calls Try.prog 29 #[.agg #[.int .i64 A.k, .slice (some ⟨g, 0, none⟩) A.nx.length gc, .slice xa A.ac.length xc], .agg #[.int .i64 B.k, .slice (some ⟨h, 0, none⟩) B.nx.length hc, .slice ya B.ac.length yc]] y (FQ P3 E y)) := fun y hy => by rw [← hP3, ← hE]; exact but_any _ _ A B y (HX.out y hy) (HY.out y hy) hA1 hA2 hB1 hB2
  have C6 : Hid (∀ y, Below W.heap.size W y → Calls Try.prog 30 #[.agg #[.int .i64 A.k, .slice an A.nx.length cn, .slice aa A.ac.length ca], .agg #[.int .i64 B.k, .slice bn B.nx.length dn, .slice ba B.ac.length da], .int .i64 1] y (FQ P1 E y)) := fun y hy => by rw [← hP1, ← hE]; exact rproduct_any _ _ A B y 1 _ (.inl ⟨rfl, rfl⟩) (HAA.out y (go_on HBW.out hy)) (HAB.out y (go_on HBW.out hy)) hA1 hA2 hB1 hB2
  have C7 : Hid (∀ y, Below W.heap.size W y → Calls Try.prog 30 #[.agg #[.int .i64 A.k, .slice an A.nx.length cn, .slice aa A.ac.length ca], .agg #[.int .i64 B.k, .slice bn B.nx.length dn, .slice ba B.ac.length da], .int .i64 2] y (FQ P2 E y)) := fun y hy => by rw [← hP2, ← hE]; exact rproduct_any _ _ A B y 2 _ (.inr (.inl ⟨rfl, rfl⟩)) (HAA.out y (go_on HBW.out hy)) (HAB.out y (go_on HBW.out hy)) hA1 hA2 hB1 hB2
  have C8 : Hid (∀ y, Below W.heap.size W y → Calls Try.prog 30 #[.agg #[.int .i64 A.k, .slice an A.nx.length cn, .slice aa A.ac.length ca], .agg #[.int .i64 B.k, .slice bn B.nx.length dn, .slice ba B.ac.length da], .int .i64 3] y (FQ P3 E y)) := fun y hy => by rw [← hP3, ← hE]; exact rproduct_any _ _ A B y 3 _ (.inr (.inr ⟨rfl, rfl⟩)) (HAA.out y (go_on HBW.out hy)) (HAB.out y (go_on HBW.out hy)) hA1 hA2 hB1 hB2
  have cw1 : ∀ o, (w2.alloc (.cells #[.int .i64 B.k, .slice (some ⟨h, 0, none⟩) B.nx.length hc, .slice ya B.ac.length yc] 25)).cell? ⟨w1.heap.size, o, none⟩ = (#[.int .i64 A.k, .slice (some ⟨g, 0, none⟩) A.nx.length gc, .slice xa A.ac.length xc] : Array Value)[o]? := by have := HRX.out.cell; rw [hW] at this; exact this
  clear hP1 hP2 hP3 hE hW E1 E2
  go_wp2_with fail
  rw [← HWE.out]
  refine (C3.out _ (Below.refl _ _)).mono ?_
  rintro e w3 ⟨v3, rfl, ha3, hb3⟩
  have HB3 : Hid (Below W.heap.size W w3) := go_on (Below.refl _ _) hb3
  have HG3 : Hid (Below W.heap.size W w3) := hb3
  have HA3 : Hid (AR w3 v3 P1) := ha3.ar
  obtain ⟨n3, c3, a3, d3, rfl, _, _⟩ := ha3
  have cp3 : ∀ O o, (w3.alloc O).cell? ⟨w1.heap.size, o, none⟩ = _ := fun O => ((HRX.out.stay HB3.out).alloc O).cell
  have cq3 : ∀ O o, (w3.alloc O).cell? ⟨w2.heap.size, o, none⟩ = _ := fun O => ((HRY.out.stay HB3.out).alloc O).cell
  clear hb3 cw1
  go_wp2_with fail
  refine (C4.out _ (go_on HB3.out (below_new _ _))).mono ?_
  rintro e w4 ⟨v4, rfl, ha4, hb4⟩
  have HB4 : Hid (Below W.heap.size W w4) := go_on (go_on HB3.out (below_new _ _)) hb4
  have HG4 : Hid (Below (w3.alloc (.cells #[.int .i64 P1.k, .slice n3 P1.nx.length c3, .slice a3 P1.ac.length d3] 25)).heap.size (w3.alloc (.cells #[.int .i64 P1.k, .slice n3 P1.nx.length c3, .slice a3 P1.ac.length d3] 25)) w4) := hb4
  have HA4 : Hid (AR w4 v4 P2) := ha4.ar
  obtain ⟨n4, c4, a4, d4, rfl, _, _⟩ := ha4
  have cp4 : ∀ O o, (w4.alloc O).cell? ⟨w1.heap.size, o, none⟩ = _ := fun O => ((HRX.out.stay HB4.out).alloc O).cell
  have cq4 : ∀ O o, (w4.alloc O).cell? ⟨w2.heap.size, o, none⟩ = _ := fun O => ((HRY.out.stay HB4.out).alloc O).cell
  clear hb4 cp3 cq3
  go_wp2_with fail
  refine (C5.out _ (go_on HB4.out (below_new _ _))).mono ?_
  rintro e w5 ⟨v5, rfl, ha5, hb5⟩
  have HB5 : Hid (Below W.heap.size W w5) := go_on (go_on HB4.out (below_new _ _)) hb5
  have HG5 : Hid (Below (w4.alloc (.cells #[.int .i64 P2.k, .slice n4 P2.nx.length c4, .slice a4 P2.ac.length d4] 25)).heap.size (w4.alloc (.cells #[.int .i64 P2.k, .slice n4 P2.nx.length c4, .slice a4 P2.ac.length d4] 25)) w5) := hb5
  have HA5 : Hid (AR w5 v5 P3) := ha5.ar
  obtain ⟨n5, c5, a5, d5, rfl, _, _⟩ := ha5
  have cp5 : ∀ O o, (w5.alloc O).cell? ⟨w.heap.size, o, none⟩ = _ := fun O => ((HRAW.out.stay HB5.out).alloc O).cell
  have cq5 : ∀ O o, (w5.alloc O).cell? ⟨(w.heap.size + 1), o, none⟩ = _ := fun O => ((HRBW.out.stay HB5.out).alloc O).cell
  clear hb5 cp4 cq4
  go_wp2_with fail
  refine (C6.out _ (go_on HB5.out (below_new _ _))).mono ?_
  rintro e w6 ⟨v6, rfl, ha6, hb6⟩
  have HB6 : Hid (Below W.heap.size W w6) := go_on (go_on HB5.out (below_new _ _)) hb6
  have HG6 : Hid (Below (w5.alloc (.cells #[.int .i64 P3.k, .slice n5 P3.nx.length c5, .slice a5 P3.ac.length d5] 25)).heap.size (w5.alloc (.cells #[.int .i64 P3.k, .slice n5 P3.nx.length c5, .slice a5 P3.ac.length d5] 25)) w6) := hb6
  have HA6 : Hid (AR w6 v6 P1) := ha6.ar
  obtain ⟨n6, c6, a6, d6, rfl, _, _⟩ := ha6
  have cp6 : ∀ O o, (w6.alloc O).cell? ⟨w.heap.size, o, none⟩ = _ := fun O => ((HRAW.out.stay HB6.out).alloc O).cell
  have cq6 : ∀ O o, (w6.alloc O).cell? ⟨(w.heap.size + 1), o, none⟩ = _ := fun O => ((HRBW.out.stay HB6.out).alloc O).cell
  clear hb6 cp5 cq5
  go_wp2_with fail
  refine (C7.out _ (go_on HB6.out (below_new _ _))).mono ?_
  rintro e w7 ⟨v7, rfl, ha7, hb7⟩
  have HB7 : Hid (Below W.heap.size W w7) := go_on (go_on HB6.out (below_new _ _)) hb7
  have HG7 : Hid (Below (w6.alloc (.cells #[.int .i64 P1.k, .slice n6 P1.nx.length c6, .slice a6 P1.ac.length d6] 25)).heap.size (w6.alloc (.cells #[.int .i64 P1.k, .slice n6 P1.nx.length c6, .slice a6 P1.ac.length d6] 25)) w7) := hb7
  have HA7 : Hid (AR w7 v7 P2) := ha7.ar
  obtain ⟨n7, c7, a7, d7, rfl, _, _⟩ := ha7
  have cp7 : ∀ O o, (w7.alloc O).cell? ⟨w.heap.size, o, none⟩ = _ := fun O => ((HRAW.out.stay HB7.out).alloc O).cell
  have cq7 : ∀ O o, (w7.alloc O).cell? ⟨(w.heap.size + 1), o, none⟩ = _ := fun O => ((HRBW.out.stay HB7.out).alloc O).cell
  clear hb7 cp6 cq6
  go_wp2_with fail
  refine (C8.out _ (go_on HB7.out (below_new _ _))).mono ?_
  rintro e w8 ⟨v8, rfl, ha8, hb8⟩
  have HB8 : Hid (Below W.heap.size W w8) := go_on (go_on HB7.out (below_new _ _)) hb8
  have HG8 : Hid (Below (w7.alloc (.cells #[.int .i64 P2.k, .slice n7 P2.nx.length c7, .slice a7 P2.ac.length d7] 25)).heap.size (w7.alloc (.cells #[.int .i64 P2.k, .slice n7 P2.nx.length c7, .slice a7 P2.ac.length d7] 25)) w8) := hb8
  have HA8 : Hid (AR w8 v8 P3) := ha8.ar
  obtain ⟨n8, c8, a8, d8, rfl, _, _⟩ := ha8
  clear hb8 cp7 cq7
  obtain ⟨Z, hZ⟩ : ∃ Z, Z = (w8.alloc (.cells #[.int .i64 P3.k, .slice n8 P3.nx.length c8, .slice a8 P3.ac.length d8] 25)) := ⟨_, rfl⟩
  have HZE : Hid (Z = (w8.alloc (.cells #[.int .i64 P3.k, .slice n8 P3.nx.length c8, .slice a8 P3.ac.length d8] 25))) := hZ
  have E8 : Below w8.heap.size w8 Z := by rw [hZ]; exact below_new _ _
  have HR8 : Hid (RowAt Z w8.heap.size #[.int .i64 P3.k, .slice n8 P3.nx.length c8, .slice a8 P3.ac.length d8]) := by show RowAt _ _ _; rw [hZ]; exact RowAt.last _ _ _
  have L7 := go_on HG8.out E8
  have E7 := go_on (below_new w7 (.cells #[.int .i64 P2.k, .slice n7 P2.nx.length c7, .slice a7 P2.ac.length d7] 25)) L7
  have HR7 : Hid (RowAt Z w7.heap.size #[.int .i64 P2.k, .slice n7 P2.nx.length c7, .slice a7 P2.ac.length d7]) := (RowAt.last _ _ _).stay L7
  have L6 := go_on HG7.out E7
  have E6 := go_on (below_new w6 (.cells #[.int .i64 P1.k, .slice n6 P1.nx.length c6, .slice a6 P1.ac.length d6] 25)) L6
  have HR6 : Hid (RowAt Z w6.heap.size #[.int .i64 P1.k, .slice n6 P1.nx.length c6, .slice a6 P1.ac.length d6]) := (RowAt.last _ _ _).stay L6
  have L5 := go_on HG6.out E6
  have E5 := go_on (below_new w5 (.cells #[.int .i64 P3.k, .slice n5 P3.nx.length c5, .slice a5 P3.ac.length d5] 25)) L5
  have HR5 : Hid (RowAt Z w5.heap.size #[.int .i64 P3.k, .slice n5 P3.nx.length c5, .slice a5 P3.ac.length d5]) := (RowAt.last _ _ _).stay L5
  have L4 := go_on HG5.out E5
  have E4 := go_on (below_new w4 (.cells #[.int .i64 P2.k, .slice n4 P2.nx.length c4, .slice a4 P2.ac.length d4] 25)) L4
  have HR4 : Hid (RowAt Z w4.heap.size #[.int .i64 P2.k, .slice n4 P2.nx.length c4, .slice a4 P2.ac.length d4]) := (RowAt.last _ _ _).stay L4
  have L3 := go_on HG4.out E4
  have E3 := go_on (below_new w3 (.cells #[.int .i64 P1.k, .slice n3 P1.nx.length c3, .slice a3 P1.ac.length d3] 25)) L3
  have HR3 : Hid (RowAt Z w3.heap.size #[.int .i64 P1.k, .slice n3 P1.nx.length c3, .slice a3 P1.ac.length d3]) := (RowAt.last _ _ _).stay L3
  have HZB : Hid (Below W.heap.size W Z) := go_on HB8.out E8
  have HRXZ : Hid (RowAt Z w1.heap.size #[.int .i64 A.k, .slice (some ⟨g, 0, none⟩) A.nx.length gc, .slice xa A.ac.length xc]) := HRX.out.stay HZB.out
  have HRYZ : Hid (RowAt Z w2.heap.size #[.int .i64 B.k, .slice (some ⟨h, 0, none⟩) B.nx.length hc, .slice ya B.ac.length yc]) := HRY.out.stay HZB.out
  have HRAZ : Hid (RowAt Z w.heap.size #[.int .i64 A.k, .slice an A.nx.length cn, .slice aa A.ac.length ca]) := HRAW.out.stay HZB.out
  have HRBZ : Hid (RowAt Z (w.heap.size + 1) #[.int .i64 B.k, .slice bn B.nx.length dn, .slice ba B.ac.length da]) := HRBW.out.stay HZB.out
  have HS1 : Hid (∀ y, Below Z.heap.size Z y → Calls Try.prog 23 #[.agg #[.int .i64 P1.k, .slice n3 P1.nx.length c3, .slice a3 P1.ac.length d3], .agg #[.int .i64 P1.k, .slice n6 P1.nx.length c6, .slice a6 P1.ac.length d6]] y fun e w' => e = .returned (.bool true) ∧ Below y.heap.size y w') := fun y hy => sameAuto_any _ _ P1 y ((HA3.out.stay E3).stay hy) ((HA6.out.stay E6).stay hy) (by have := HLP1.out; omega) (by have := HLP1.out; omega)
  have HS2 : Hid (∀ y, Below Z.heap.size Z y → Calls Try.prog 23 #[.agg #[.int .i64 P2.k, .slice n4 P2.nx.length c4, .slice a4 P2.ac.length d4], .agg #[.int .i64 P2.k, .slice n7 P2.nx.length c7, .slice a7 P2.ac.length d7]] y fun e w' => e = .returned (.bool true) ∧ Below y.heap.size y w') := fun y hy => sameAuto_any _ _ P2 y ((HA4.out.stay E4).stay hy) ((HA7.out.stay E7).stay hy) (by have := HLP2.out; omega) (by have := HLP2.out; omega)
  have HS3 : Hid (∀ y, Below Z.heap.size Z y → Calls Try.prog 23 #[.agg #[.int .i64 P3.k, .slice n5 P3.nx.length c5, .slice a5 P3.ac.length d5], .agg #[.int .i64 P3.k, .slice n8 P3.nx.length c8, .slice a8 P3.ac.length d8]] y fun e w' => e = .returned (.bool true) ∧ Below y.heap.size y w') := fun y hy => sameAuto_any _ _ P3 y ((HA5.out.stay E5).stay hy) ((HA8.out.stay E8).stay hy) (by have := HLP3.out; omega) (by have := HLP3.out; omega)
  have cz3 : ∀ o, (w8.alloc (.cells #[.int .i64 P3.k, .slice n8 P3.nx.length c8, .slice a8 P3.ac.length d8] 25)).cell? ⟨w3.heap.size, o, none⟩ = (#[.int .i64 P1.k, .slice n3 P1.nx.length c3, .slice a3 P1.ac.length d3] : Array Value)[o]? := by have := HR3.out.cell; rw [hZ] at this; exact this
  have cz6 : ∀ o, (w8.alloc (.cells #[.int .i64 P3.k, .slice n8 P3.nx.length c8, .slice a8 P3.ac.length d8] 25)).cell? ⟨w6.heap.size, o, none⟩ = (#[.int .i64 P1.k, .slice n6 P1.nx.length c6, .slice a6 P1.ac.length d6] : Array Value)[o]? := by have := HR6.out.cell; rw [hZ] at this; exact this
  clear hZ E8 E7 E6 E5 E4 E3 L7 L6 L5 L4 L3 C3 C4 C5 C6 C7 C8
  go_wp2_with fail
  rw [← HZE.out]
  clear cz3 cz6
  go_wp2_with (first
    | (go_at_call 12; refine (num8_any _ _).mono ?_; rintro e yn ⟨rfl, hyn⟩; subst yn)
    | (go_at_call 23; refine (HS1.out _ (Below.refl _ _)).mono ?_; rintro e y1 ⟨rfl, hy1⟩; have HY1 : Hid (Below Z.heap.size Z y1) := hy1; have r1 := (HR4.out.stay hy1).cell; have r2 := (HR7.out.stay hy1).cell; clear hy1 HS1)
    | (go_at_call 23; refine (HS2.out _ HY1.out).mono ?_; rintro e y2 ⟨rfl, hy2⟩; have HY2 : Hid (Below Z.heap.size Z y2) := go_on HY1.out hy2; have r3 := (HR5.out.stay HY2.out).cell; have r4 := (HR8.out.stay HY2.out).cell; clear hy2 HS2 HY1 r1 r2)
    | (go_at_call 23; refine (HS3.out _ HY2.out).mono ?_; rintro e y3 ⟨rfl, hy3⟩; have HY3 : Hid (Below Z.heap.size Z y3) := go_on HY2.out hy3; have r5 := (HRXZ.out.stay HY3.out).cell; have r6 := (HRAZ.out.stay HY3.out).cell; clear hy3 HS3 HY2 r3 r4)
    | (go_at_call 15; refine (HSX.out _ (go_on HZB.out HY3.out)).mono ?_; rintro e y4 ⟨rfl, hy4⟩; have HY4 : Hid (Below Z.heap.size Z y4) := go_on HY3.out hy4; have r7 := (HRYZ.out.stay HY4.out).cell; have r8 := (HRBZ.out.stay HY4.out).cell; clear hy4 HSX HY3 r5 r6)
    | (go_at_call 15; refine (HSY.out _ (go_on HZB.out HY4.out)).mono ?_; rintro e y5 ⟨rfl, hy5⟩; have HY5 : Hid (Below w.heap.size w y5) := go_on (go_on (go_on HBW.out HZB.out) HY4.out) hy5; clear hy5 HSY HY4 r7 r8)
    | (go_at_call 16; refine (live8_any _).mono ?_; rintro e y6 ⟨rfl, hy6⟩; have HY6 : Hid (Below w.heap.size w y6) := go_on HY5.out hy6; clear hy6))
  go_ret
  exact ⟨rfl, HY6.out⟩

/-! ### The row's step -/
theorem own : ownKnob Try.prog.godebug = none := by kernel_rfl
set_option maxRecDepth 100000 in
theorem lifted (os : Os) (started : os.Started) (H : Type) (enc : TypeId × Value → H) :
    ReturnsInHanded {} Try.checked os 6 .any (Rows.autoProductsSpec.pre6 enc Try.prog Try.f6 Rows.autoProductsRow.domain false) (Rows.autoProductsSpec.post enc Try.prog Try.f6 false true false false) := by
  refine returnsInHanded_of_change_sized (C := Try.checked) own started (by kernel_rfl) Try.func6
    (ChangeSpec.witness6 (enc := enc) (C := Try.checked) false ⟨#[], #[.agg #[.int .i64 0, .slice none 0 0, .slice none 0 0], .agg #[.int .i64 0, .slice none 0 0, .slice none 0 0]], []⟩ 8 (by kernel_rfl) (by kernel_rfl) (by kernel_rfl) (by kernel_rfl)) ?_
  intro W base args ds gs before hval0 hW hcnd hsz0 _
  have hval : ∀ (j : Nat) t v, Try.f6.params[j]? = some t → args[j]? = some v → Value.okWide Try.prog W .any base t v := hval0
  clear hval0
  have hsz : (DataW.weightsEach Try.prog (Try.f6.params.toList ++ Rows.autoProductsSpec.plain.varTypes Try.prog) (ds ++ gs)).all (· ≤ reachBytes) = true := hsz0
  clear hsz0
  have hW' := hW
  obtain ⟨p, q, hA0, hV, rfl, hfz, hnd⟩ := hW
  have hA : DataW.TrodAll enc Try.prog W 0 (fun _ => true) true Try.f6.params.toList args.toList ds p := hA0
  rw [Try.params6] at hA hval hsz
  obtain ⟨v0, vs0, d0, ds0, p0, q0, hargs, rfl, rfl, h0, r0⟩ := trodAll_cons hA
  obtain ⟨v1, vs1, d1, ds1, p1, q1, rfl, rfl, rfl, h1, r1⟩ := trodAll_cons r0
  obtain ⟨rfl, rfl, rfl⟩ := trodAll_nil r1
  obtain rfl : args = #[v0, v1] := by cases args; simp_all
  obtain ⟨rfl, rfl⟩ := trodVars_none hV
  obtain ⟨a0, x0, n0, w0, dk0, dn0, da0, e0, y0, z0⟩ := open_auto (hval 0 25 v0 rfl rfl) h0
  have b0 := auto_bounds hsz (j := 0) rfl (by rw [e0]; rfl) y0 z0
  have g0 : ∀ x ∈ p0, x.block < W.heap.size := fun x hx => hW'.lt x (by simp [hx])
  obtain ⟨a1, x1, n1, w1, dk1, dn1, da1, e1, y1, z1⟩ := open_auto (hval 1 25 v1 rfl rfl) h1
  have b1 := auto_bounds hsz (j := 1) rfl (by rw [e1]; rfl) y1 z1
  have g1 : ∀ x ∈ p1, x.block < W.heap.size := fun x hx => hW'.lt x (by simp [hx])
  clear hA0
  refine (walk v0 a0 v1 a1 W x0 n0 b0.1 b0.2 x1 n1 b1.1 b1.2).mono fun e W' ⟨he, bel⟩ => ?_
  subst he
  exact ⟨_, rfl, _, _, _, [], _, [], hW', trodAll_mk1 (shut_bool Try.underlying4 _), (trodAll_cons_mk (Below.trod Try.laidOut (by kernel_rfl) (of_decide_eq_true (by kernel_rfl)) h0 bel g0) (trodAll_cons_mk (Below.trod Try.laidOut (by kernel_rfl) (of_decide_eq_true (by kernel_rfl)) h1 bel g1) trodAll_mk0)), rfl, bel.frame _, fun h => by cases h⟩

theorem over : Rows.autoProductsRow.holds Try.pinned (OpenSpec.ofChange Rows.autoProductsSpec) :=
  OpenClaim.holds_of_wide 6 Try.f6 rfl rfl rfl rfl rfl rfl rfl ⟨rfl, rfl, rfl, rfl, rfl⟩ rfl rfl rfl rfl rfl (by kernel_rfl) Try.func6 (by kernel_rfl)
    (of_decide_eq_true (by kernel_rfl)) (by unfold Func.isWrapper; first | (rw [if_pos (by decide +kernel)]; kernel_rfl) | (rw [if_neg (by decide +kernel)]; exact ⟨rfl, rfl⟩))
    (fun os started H enc _ => lifted os started H enc)

end Go.Proofs.Ytpaadopmmpdodaa.autoProducts
namespace Go.Proofs.Ytpaadopmmpdodaa
/-- The given statement. -/
theorem autoProducts_holds : Rows.AutoProductsSaid := autoProducts.over
end Go.Proofs.Ytpaadopmmpdodaa
