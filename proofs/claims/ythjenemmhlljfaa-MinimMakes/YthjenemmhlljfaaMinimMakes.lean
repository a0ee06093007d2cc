/- Proved: eggboxlaw10.MinimMakes answers true at every automaton's data a (P10.2, P10.3): minim.Minimal and Is answer what the document's do, Minimal twice the same; the lists are the caller's own; what is handed in stays; its arguments read behind the call as before. -/
import Derived.Test.YthjenemmhlljfaaJu
import Derived.Test.YthjenemmhlljfaaQl
import Derived.Test.YthjenemmhlljfaaMp
import Derived.Test.YthjenemmhlljfaaLz
import Derived.Deep.RegionHeld3
namespace Go.Proofs.Ythjenemmhlljfaa.minimMakes
open Go Go.ChangeShapes Go.WideShapes Go.ChangeAt Go.RowKit Go.Lib
open Go.ChangeMaps (open_string shut_string)
set_option linter.unusedVariables false

/-- The lists' lengths, by the form's own reach, with room for forty more. -/
theorem auto_bounds40 {H : Type} {ts : List TypeId} {ds : List (DataW H)} (h : (DataW.weightsEach Try.prog ts ds).all (· ≤ reachBytes) = true) {j : Nat} {dk dn da : DataW H} (ht : ts[j]? = some 25) (hd : ds[j]? = some (.agg [dk, dn, da])) {A : Aut}
    (h1 : (dn = .nil ∧ A.nx = []) ∨ ∃ e s, dn = .slice e s ∧ A.nx.length ≤ e.length + s.length) (h2 : (da = .nil ∧ A.ac = []) ∨ ∃ e s, da = .slice e s ∧ A.ac.length ≤ e.length + s.length) :
    A.nx.length ≤ 17592186044000 ∧ A.ac.length ≤ 140737488355328 := by
  obtain ⟨b1, b2⟩ := sized_auto h ht hd
  constructor
  · rcases h1 with ⟨_, e⟩ | ⟨e, s, he, hl⟩
    · rw [e]; decide
    · have := b1 e s he
      simp only [reachBytes] at this
      omega
  · rcases h2 with ⟨_, e⟩ | ⟨e, s, he, hl⟩
    · rw [e]; decide
    · have := b2 e s he
      simp only [reachBytes] at this
      omega

/-- A row's beginning is a row. -/
theorem own_cut {w : World} {base : Nat} {e : TypeId} {g n k cap : Nat} {xs : List Value} (h : w.ownsRow base e 1 (.slice (some ⟨g, 0, none⟩) (n + k) cap) (n + k) xs) : w.ownsRow base e 1 (.slice (some ⟨g, 0, none⟩) n cap) n (xs.take n) := by
  obtain ⟨h0, h⟩ := h
  rcases h with ⟨h, _⟩ | ⟨g', cap', cur, hv, r1, r2, r3, r4, r5, r6⟩
  · simp at h
  · simp at hv
    obtain ⟨rfl, rfl⟩ := hv
    refine ⟨by simp; omega, .inr ⟨g, cap, cur, rfl, r1, r2, by omega, r4, r5, ?_⟩⟩
    rw [← r6, List.take_take]
    congr 1
    omega
theorem apart4 {a : Nat → Option Addr} {n c : Nat → Nat} {lo hi : Nat → Nat} (h : ∀ j, j < 4 → ∀ b, (vv a n c j).ownBlock = some b → lo j ≤ b ∧ b < hi j) (hd : ∀ j j', j < 4 → j' < 4 → j ≠ j' → hi j ≤ lo j' ∨ hi j' ≤ lo j) : ∀ j j', j < 4 → j' < 4 → j ≠ j' → ∀ b, (vv a n c j).ownBlock = some b → (vv a n c j').ownBlock ≠ some b := by
  intro j j' hj hj' hne b hb hb'
  have h1 := h j hj b hb
  have h2 := h j' hj' b hb'
  rcases hd j j' hj hj' hne with h3 | h3 <;> omega
theorem four {p : Nat → Prop} (h0 : p 0) (h1 : p 1) (h2 : p 2) (h3 : p 3) : ∀ j, j < 4 → p j := by
  intro j hj
  have : j = 0 ∨ j = 1 ∨ j = 2 ∨ j = 3 := by omega
  rcases this with rfl | rfl | rfl | rfl <;> assumption
def pk {α : Type} (a b c d : α) (j : Nat) : α := match j with | 0 => a | 1 => b | 2 => c | _ => d

theorem mnT_len (A : Aut) : (mnT A).length ≤ 4096 := by
  unfold mnT
  split
  · rename_i hc
    have := (chkA_good hc).n2
    simp; exact this
  · simp
theorem facts (A : Aut) (hm : A.nx.length ≤ 9223372036854775806) (hm2 : A.ac.length ≤ 9223372036854775806) : ∃ (B : Aut) (T : List Int) (E : Int) (b : Bool), B.nx.length ≤ 32768 ∧ B.ac.length ≤ 4096 ∧ T.length ≤ 4096 ∧
    (∀ y x, AR y x A → Calls Try.prog 19 #[x] y (MnS B T E y)) ∧
    (∀ y x, AR y x A → Calls Try.prog 20 #[x] y (MQ B T E y)) ∧
    (∀ y x, AR y x A → Calls Try.prog 21 #[x] y fun e w' => e = .returned (.tuple #[.bool b, .int .i64 E]) ∧ Below y.heap.size y w') ∧
    (∀ y x, AR y x A → Calls Try.prog 22 #[x] y fun e w' => e = .returned (.tuple #[.bool b, .int .i64 E]) ∧ Below y.heap.size y w') :=
  ⟨mnA A, mnT A, chkA A, isV A, (mnA_len A).1, (mnA_len A).2, mnT_len A, fun y x h => minimal_sep x A y h hm hm2, fun y x h => rminimal_any x A y h hm hm2, fun y x h => mis_any x A y h hm hm2, fun y x h => rIs_any x A y h hm hm2⟩

set_option maxHeartbeats 16000000 in
set_option maxRecDepth 100000 in
theorem walk (va : Value) (A : Aut) (w : World) (ha : AR w va A) (hna : NilOk va) (hma : A.nx.length ≤ 17592186044000) (hma2 : A.ac.length ≤ 140737488355328) :
    Calls Try.prog 4 #[va] w fun e w' => e = .returned (.bool true) ∧ Below w.heap.size w w' := by
  obtain ⟨an, cn, aa, ca, ea, hsn, _⟩ := ha.is
  obtain ⟨B, T, E, b, hB1, hB2, hT, q1, q2, q3, q4⟩ := facts A (by omega) (by omega)
  have C1 : Hid (∀ y x, AR y x A → Calls Try.prog 19 #[x] y (MnS B T E y)) := q1
  have C2 : Hid (∀ y x, AR y x A → Calls Try.prog 20 #[x] y (MQ B T E y)) := q2
  have C3 : Hid (∀ y x, AR y x A → Calls Try.prog 21 #[x] y fun e w' => e = .returned (.tuple #[.bool b, .int .i64 E]) ∧ Below y.heap.size y w') := q3
  have C4 : Hid (∀ y x, AR y x A → Calls Try.prog 22 #[x] y fun e w' => e = .returned (.tuple #[.bool b, .int .i64 E]) ∧ Below y.heap.size y w') := q4
  have HLA : Hid (∀ y, Below w.heap.size w y → Calls Try.prog 9 #[va] y (LQ A y)) := fun y hy => lentAuto_any va A y (ha.stay hy) hna (by omega) hma2
  have HAA : Hid (∀ y, Below w.heap.size w y → AR y va A) := fun y hy => ha.stay hy
  have HSN : Hid (∀ y, Below w.heap.size w y → SR y an (zC A.nx)) := fun y hy => hsn.stay hy
  have HM0 : Hid (A.nx.length ≤ 17592186044000) := hma
  have HPR : Hid (B.nx.length ≤ 32768 ∧ B.ac.length ≤ 4096 ∧ T.length ≤ 4096) := ⟨hB1, hB2, hT⟩
  clear q1 q2 q3 q4 hna hma hma2 ha hsn hB1 hB2 hT
  subst ea
  obtain ⟨V, hV⟩ : ∃ V, V = w.alloc (.cells #[.int .i64 A.k, .slice an A.nx.length cn, .slice aa A.ac.length ca] 25) := ⟨_, rfl⟩
  have HVE : Hid (V = w.alloc (.cells #[.int .i64 A.k, .slice an A.nx.length cn, .slice aa A.ac.length ca] 25)) := hV
  have HBV : Hid (Below w.heap.size w V) := by show Below _ _ _; rw [hV]; exact below_new _ _
  have HRV : Hid (RowAt V w.heap.size #[.int .i64 A.k, .slice an A.nx.length cn, .slice aa A.ac.length ca]) := by show RowAt _ _ _; rw [hV]; exact RowAt.last _ _ _
  clear hV
  go_enter Try.func4, Try.ntmps4
  go_wp2_with fail
  rw [← HVE.out]
  refine (HLA.out _ HBV.out).mono ?_
  rintro e w1 ⟨g, gc, xa, xc, rfl, hi1, ho1, hb1⟩
  have HI1 : Hid (w1.ownsRow V.heap.size 3 1 (.slice (some ⟨g, 0, none⟩) (A.nx.length + 2) gc) (A.nx.length + 2) (zC (A.nx ++ [-77, -78]))) := hi1
  have HO1 : Hid (w1.ownsRow V.heap.size 4 1 (.slice xa A.ac.length xc) A.ac.length (bC A.ac)) := ho1
  have HB1 : Hid (Below w.heap.size w w1) := go_on HBV.out hb1
  obtain ⟨U, hU⟩ : ∃ U, U = w1.alloc (.cells #[.int .i64 A.k, .slice (some ⟨g, 0, none⟩) A.nx.length gc, .slice xa A.ac.length xc] 25) := ⟨_, rfl⟩
  have HUE : Hid (U = w1.alloc (.cells #[.int .i64 A.k, .slice (some ⟨g, 0, none⟩) A.nx.length gc, .slice xa A.ac.length xc] 25)) := hU
  have E1 : Below w1.heap.size w1 U := by rw [hU]; exact below_new _ _
  have HB1U : Hid (Below w1.heap.size w1 U) := E1
  have HBU : Hid (Below w.heap.size w U) := go_on HB1.out E1
  have HRX : Hid (RowAt U w1.heap.size #[.int .i64 A.k, .slice (some ⟨g, 0, none⟩) A.nx.length gc, .slice xa A.ac.length xc]) := by show RowAt _ _ _; rw [hU]; exact RowAt.last _ _ _
  have HRA : Hid (RowAt U w.heap.size #[.int .i64 A.k, .slice an A.nx.length cn, .slice aa A.ac.length ca]) := (HRV.out.stay hb1).stay E1
  have HXA : Hid (∀ y, Below U.heap.size U y → AR y (.agg #[.int .i64 A.k, .slice (some ⟨g, 0, none⟩) A.nx.length gc, .slice xa A.ac.length xc]) A) := fun y hy => ⟨_, _, _, _, rfl, ((lent_sr HI1.out).stay E1).stay hy, ((own_sr HO1.out).stay E1).stay hy⟩
  have HST : Hid (∀ y, Below U.heap.size U y → Calls Try.prog 16 #[.slice (some ⟨g, 0, none⟩) A.nx.length gc, .slice an A.nx.length cn] y fun e w' => e = .returned (.bool true) ∧ Below y.heap.size y w') := fun y hy => stay_any an cn A.nx y (HSN.out y (go_on HBU.out hy)) _ g gc (by have := HM0.out; omega) (own_below (own_below HI1.out E1) hy)
  have cu : ∀ o, (w1.alloc (.cells #[.int .i64 A.k, .slice (some ⟨g, 0, none⟩) A.nx.length gc, .slice xa A.ac.length xc] 25)).cell? ⟨w1.heap.size, o, none⟩ = (#[.int .i64 A.k, .slice (some ⟨g, 0, none⟩) A.nx.length gc, .slice xa A.ac.length xc] : Array Value)[o]? := by have := HRX.out.cell; rw [hU] at this; exact this
  clear hi1 ho1 hb1 E1 hU HLA
  go_wp2_with fail
  rw [← HUE.out]
  clear cu
  refine (C1.out _ _ (HXA.out _ (Below.refl _ _))).mono ?_
  rintro e w2 ⟨n2, c2, a2, d2, x2, rfl, o2, p2, ht2, sp2, hb2⟩
  obtain ⟨t2, e2, rfl⟩ := own_shape ht2
  have HSP2 : Hid (∀ b, (Value.slice n2 B.nx.length c2).ownBlock = some b → (Value.slice t2 T.length e2).ownBlock ≠ some b) := sp2
  have HG2 : Hid (Below U.heap.size U w2) := hb2
  have HO2 : Hid (w2.ownsRow U.heap.size 3 1 (.slice n2 B.nx.length c2) B.nx.length (zC B.nx)) := o2
  have HP2 : Hid (w2.ownsRow U.heap.size 4 1 (.slice a2 B.ac.length d2) B.ac.length (bC B.ac)) := p2
  have HT2 : Hid (w2.ownsRow U.heap.size 3 1 (.slice t2 T.length e2) T.length (zC T)) := ht2
  obtain ⟨U2, hU2⟩ : ∃ U2, U2 = w2.alloc (.cells #[.int .i64 B.k, .slice n2 B.nx.length c2, .slice a2 B.ac.length d2] 25) := ⟨_, rfl⟩
  have HUE2 : Hid (U2 = w2.alloc (.cells #[.int .i64 B.k, .slice n2 B.nx.length c2, .slice a2 B.ac.length d2] 25)) := hU2
  have HN2 : Hid (Below w2.heap.size w2 U2) := by show Below _ _ _; rw [hU2]; exact below_new _ _
  have HBU2 : Hid (Below U.heap.size U U2) := go_on (hb2) HN2.out
  have HR2 : Hid (RowAt U2 w2.heap.size #[.int .i64 B.k, .slice n2 B.nx.length c2, .slice a2 B.ac.length d2]) := by show RowAt _ _ _; rw [hU2]; exact RowAt.last _ _ _
  have cx : ∀ o, (w2.alloc (.cells #[.int .i64 B.k, .slice n2 B.nx.length c2, .slice a2 B.ac.length d2] 25)).cell? ⟨w1.heap.size, o, none⟩ = (#[.int .i64 A.k, .slice (some ⟨g, 0, none⟩) A.nx.length gc, .slice xa A.ac.length xc] : Array Value)[o]? := by have := (HRX.out.stay HBU2.out).cell; rw [hU2] at this; exact this
  clear hb2 o2 p2 ht2 hU2 sp2
  go_wp2_with fail
  rw [← HUE2.out]
  clear cx
  refine (C1.out _ _ (HXA.out _ HBU2.out)).mono ?_
  rintro e w3 ⟨n3, c3, a3, d3, x3, rfl, o3, p3, ht3, sp3, hb3⟩
  obtain ⟨t3, e3, rfl⟩ := own_shape ht3
  have HSP3 : Hid (∀ b, (Value.slice n3 B.nx.length c3).ownBlock = some b → (Value.slice t3 T.length e3).ownBlock ≠ some b) := sp3
  have HG3 : Hid (Below U2.heap.size U2 w3) := hb3
  have HO3 : Hid (w3.ownsRow U2.heap.size 3 1 (.slice n3 B.nx.length c3) B.nx.length (zC B.nx)) := o3
  have HP3 : Hid (w3.ownsRow U2.heap.size 4 1 (.slice a3 B.ac.length d3) B.ac.length (bC B.ac)) := p3
  have HT3 : Hid (w3.ownsRow U2.heap.size 3 1 (.slice t3 T.length e3) T.length (zC T)) := ht3
  obtain ⟨U3, hU3⟩ : ∃ U3, U3 = w3.alloc (.cells #[.int .i64 B.k, .slice n3 B.nx.length c3, .slice a3 B.ac.length d3] 25) := ⟨_, rfl⟩
  have HUE3 : Hid (U3 = w3.alloc (.cells #[.int .i64 B.k, .slice n3 B.nx.length c3, .slice a3 B.ac.length d3] 25)) := hU3
  have HN3 : Hid (Below w3.heap.size w3 U3) := by show Below _ _ _; rw [hU3]; exact below_new _ _
  have HBU3 : Hid (Below U.heap.size U U3) := go_on (go_on HBU2.out hb3) HN3.out
  have HR3 : Hid (RowAt U3 w3.heap.size #[.int .i64 B.k, .slice n3 B.nx.length c3, .slice a3 B.ac.length d3]) := by show RowAt _ _ _; rw [hU3]; exact RowAt.last _ _ _
  have cx : ∀ o, (w3.alloc (.cells #[.int .i64 B.k, .slice n3 B.nx.length c3, .slice a3 B.ac.length d3] 25)).cell? ⟨w.heap.size, o, none⟩ = (#[.int .i64 A.k, .slice an A.nx.length cn, .slice aa A.ac.length ca] : Array Value)[o]? := by have := (HRA.out.stay HBU3.out).cell; rw [hU3] at this; exact this
  clear hb3 o3 p3 ht3 hU3 sp3
  go_wp2_with fail
  rw [← HUE3.out]
  clear cx
  refine (C2.out _ _ (HAA.out _ (go_on HBU.out HBU3.out))).mono ?_
  rintro e w4 ⟨v4, x4, rfl, ha4, ht4, hb4⟩
  obtain ⟨n4, c4, a4, d4, rfl, o4, p4⟩ := ha4
  obtain ⟨t4, e4, rfl⟩ := own_shape ht4
  skip
  have HG4 : Hid (Below U3.heap.size U3 w4) := hb4
  have HO4 : Hid (w4.ownsRow U3.heap.size 3 1 (.slice n4 B.nx.length c4) B.nx.length (zC B.nx)) := o4
  have HP4 : Hid (w4.ownsRow U3.heap.size 4 1 (.slice a4 B.ac.length d4) B.ac.length (bC B.ac)) := p4
  have HT4 : Hid (w4.ownsRow U3.heap.size 3 1 (.slice t4 T.length e4) T.length (zC T)) := ht4
  obtain ⟨U4, hU4⟩ : ∃ U4, U4 = w4.alloc (.cells #[.int .i64 B.k, .slice n4 B.nx.length c4, .slice a4 B.ac.length d4] 25) := ⟨_, rfl⟩
  have HUE4 : Hid (U4 = w4.alloc (.cells #[.int .i64 B.k, .slice n4 B.nx.length c4, .slice a4 B.ac.length d4] 25)) := hU4
  have HN4 : Hid (Below w4.heap.size w4 U4) := by show Below _ _ _; rw [hU4]; exact below_new _ _
  have HBU4 : Hid (Below U.heap.size U U4) := go_on (go_on HBU3.out hb4) HN4.out
  have HR4 : Hid (RowAt U4 w4.heap.size #[.int .i64 B.k, .slice n4 B.nx.length c4, .slice a4 B.ac.length d4]) := by show RowAt _ _ _; rw [hU4]; exact RowAt.last _ _ _
  have cx : ∀ o, (w4.alloc (.cells #[.int .i64 B.k, .slice n4 B.nx.length c4, .slice a4 B.ac.length d4] 25)).cell? ⟨w1.heap.size, o, none⟩ = (#[.int .i64 A.k, .slice (some ⟨g, 0, none⟩) A.nx.length gc, .slice xa A.ac.length xc] : Array Value)[o]? := by have := (HRX.out.stay HBU4.out).cell; rw [hU4] at this; exact this
  clear hb4 o4 p4 ht4 hU4
  go_wp2_with fail
  rw [← HUE4.out]
  clear cx
  refine (C3.out _ _ (HXA.out _ HBU4.out)).mono ?_
  rintro e w5 ⟨rfl, hb5⟩
  have HG5 : Hid (Below U4.heap.size U4 w5) := hb5
  have HB5 : Hid (Below U.heap.size U w5) := go_on HBU4.out hb5
  have cx := (HRA.out.stay HB5.out).cell
  clear hb5
  go_wp2_with fail
  clear cx
  refine (C4.out _ _ (HAA.out _ (go_on HBU.out HB5.out))).mono ?_
  rintro e Z ⟨rfl, hb6⟩
  have HZ4 : Hid (Below U4.heap.size U4 Z) := go_on HG5.out hb6
  have HZB : Hid (Below U.heap.size U Z) := go_on HB5.out hb6
  clear hb6
  have E4 := HZ4.out
  have E4' := go_on HN4.out E4
  have E3 := go_on HG4.out E4'
  have E3' := go_on HN3.out E3
  have E2 := go_on HG3.out E3'
  have E2' := go_on HN2.out E2
  have HRZ2 : Hid (RowAt Z w2.heap.size #[.int .i64 B.k, .slice n2 B.nx.length c2, .slice a2 B.ac.length d2]) := HR2.out.stay E2
  have HRZ3 : Hid (RowAt Z w3.heap.size #[.int .i64 B.k, .slice n3 B.nx.length c3, .slice a3 B.ac.length d3]) := HR3.out.stay E3
  have HRZ4 : Hid (RowAt Z w4.heap.size #[.int .i64 B.k, .slice n4 B.nx.length c4, .slice a4 B.ac.length d4]) := HR4.out.stay E4
  have HS1 : Hid (∀ y, Below Z.heap.size Z y → Calls Try.prog 23 #[(.agg #[.int .i64 B.k, .slice n2 B.nx.length c2, .slice a2 B.ac.length d2]), (.agg #[.int .i64 B.k, .slice n4 B.nx.length c4, .slice a4 B.ac.length d4])] y fun e w' => e = .returned (.bool true) ∧ Below y.heap.size y w') := fun y hy => sameAuto_any _ _ B y ⟨_, _, _, _, rfl, ((own_sr HO2.out).stay E2').stay hy, ((own_sr HP2.out).stay E2').stay hy⟩ ⟨_, _, _, _, rfl, ((own_sr HO4.out).stay E4').stay hy, ((own_sr HP4.out).stay E4').stay hy⟩ (by have := HPR.out; omega) (by have := HPR.out; omega)
  have HS2 : Hid (∀ y, Below Z.heap.size Z y → Calls Try.prog 23 #[(.agg #[.int .i64 B.k, .slice n3 B.nx.length c3, .slice a3 B.ac.length d3]), (.agg #[.int .i64 B.k, .slice n4 B.nx.length c4, .slice a4 B.ac.length d4])] y fun e w' => e = .returned (.bool true) ∧ Below y.heap.size y w') := fun y hy => sameAuto_any _ _ B y ⟨_, _, _, _, rfl, ((own_sr HO3.out).stay E3').stay hy, ((own_sr HP3.out).stay E3').stay hy⟩ ⟨_, _, _, _, rfl, ((own_sr HO4.out).stay E4').stay hy, ((own_sr HP4.out).stay E4').stay hy⟩ (by have := HPR.out; omega) (by have := HPR.out; omega)
  have HS3 : Hid (∀ y, Below Z.heap.size Z y → Calls Try.prog 14 #[.slice t2 T.length e2, .slice t4 T.length e4] y fun e w' => e = .returned (.bool true) ∧ Below y.heap.size y w') := fun y hy => same_any t2 t4 e2 e4 T y (((own_sr HT2.out).stay E2').stay hy) (((own_sr HT4.out).stay E4').stay hy) (by have := HPR.out; omega)
  have HRXZ : Hid (RowAt Z w1.heap.size #[.int .i64 A.k, .slice (some ⟨g, 0, none⟩) A.nx.length gc, .slice xa A.ac.length xc]) := HRX.out.stay HZB.out
  have HRAZ : Hid (RowAt Z w.heap.size #[.int .i64 A.k, .slice an A.nx.length cn, .slice aa A.ac.length ca]) := HRA.out.stay HZB.out
  have HTN : Hid (∀ b, (Value.slice n2 B.nx.length c2).ownBlock = some b → (Value.slice t2 T.length e2).ownBlock ≠ some b) := HSP2.out
  have HAP : Hid (∀ y, Below Z.heap.size Z y → Calls Try.prog 17 #[.slice (some ⟨y.heap.size, 0, none⟩) 4 4] (y.alloc (.cells #[.slice n2 B.nx.length c2, .slice n3 B.nx.length c3, .slice t2 T.length e2, .slice (some ⟨g, 0, none⟩) A.nx.length gc] 22)) fun e w' => e = .returned (.bool true) ∧ Below w.heap.size (y.alloc (.cells #[.slice n2 B.nx.length c2, .slice n3 B.nx.length c3, .slice t2 T.length e2, .slice (some ⟨g, 0, none⟩) A.nx.length gc] 22)) w') := by
    intro y hy
    have EX := go_on HB1U.out HZB.out
    have s0 := HBV.out.size
    have s1 := HB1.out.size
    have s2 := HB1U.out.size
    have s3 := HG2.out.size
    have s4 := HN2.out.size
    have s5 := HG3.out.size
    have s6 := E3'.size
    have s7 := hy.size
    have s8 := HN3.out.size
    have s9 := HG4.out.size
    have xr : w1.ownsRow w.heap.size 3 1 (.slice (some ⟨g, 0, none⟩) A.nx.length gc) A.nx.length (zC A.nx) := by
      have h1 := own_cut (n := A.nx.length) (k := 2) HI1.out
      have e : (zC (A.nx ++ [-77, -78])).take A.nx.length = zC A.nx := by simp [zC]
      rw [e] at h1
      exact own_mono h1 s0
    refine apart_any w.heap.size y.heap.size (pk n2 n3 t2 (some ⟨g, 0, none⟩)) (pk B.nx.length B.nx.length T.length A.nx.length) (pk c2 c3 e2 gc) (pk (zC B.nx) (zC B.nx) (zC T) (zC A.nx)) _ (heap_alloc_last y _) (four ?_ ?_ ?_ ?_) (four ?_ ?_ ?_ ?_) (four ?_ ?_ ?_ ?_) ?_ (by simp; omega)
    · exact own_mono ((own_below (own_below HO2.out E2') hy).alloc _) (by omega)
    · exact own_mono ((own_below (own_below HO3.out E3') hy).alloc _) (by omega)
    · exact own_mono ((own_below (own_below HT2.out E2') hy).alloc _) (by omega)
    · exact (own_below (own_below xr EX) hy).alloc _
    · have := HPR.out; show B.nx.length ≤ _; omega
    · have := HPR.out; show B.nx.length ≤ _; omega
    · have := HPR.out; show T.length ≤ _; omega
    · exact HM0.out
    · show (zC B.nx).length = B.nx.length; simp [zC]
    · show (zC B.nx).length = B.nx.length; simp [zC]
    · show (zC T).length = T.length; simp [zC]
    · show (zC A.nx).length = A.nx.length; simp [zC]
    · have f2 := HO2.out.lt
      have f3 := HO3.out.lt
      have ft := HT2.out.lt
      have fx := xr.lt
      have tn := HTN.out
      intro j j' hj hj' hne b hb hb'
      have k1 : j = 0 ∨ j = 1 ∨ j = 2 ∨ j = 3 := by omega
      have k2 : j' = 0 ∨ j' = 1 ∨ j' = 2 ∨ j' = 3 := by omega
      rcases k1 with rfl | rfl | rfl | rfl <;> rcases k2 with rfl | rfl | rfl | rfl <;> simp only [vv, pk] at hb hb' <;> first
        | exact absurd rfl hne
        | exact tn b hb hb'
        | exact tn b hb' hb
        | (have z1 := f2 b hb; have z2 := f3 b hb'; omega)
        | (have z1 := f3 b hb; have z2 := f2 b hb'; omega)
        | (have z1 := ft b hb; have z2 := f3 b hb'; omega)
        | (have z1 := f3 b hb; have z2 := ft b hb'; omega)
        | (have z1 := fx b hb; have z2 := f2 b hb'; omega)
        | (have z1 := f2 b hb; have z2 := fx b hb'; omega)
        | (have z1 := fx b hb; have z2 := f3 b hb'; omega)
        | (have z1 := f3 b hb; have z2 := fx b hb'; omega)
        | (have z1 := fx b hb; have z2 := ft b hb'; omega)
        | (have z1 := ft b hb; have z2 := fx b hb'; omega)
  clear E4 E4' E3 E3' E2 E2' C1 C2 C3 C4
  have r2 := HRZ2.out.cell
  have r4 := HRZ4.out.cell
  go_wp2_with (first
    | (go_at_call 15; refine (num10_any _ _).mono ?_; rintro e yn ⟨rfl, hyn⟩; subst yn)
    | (go_at_call 23; refine (HS1.out _ (Below.refl _ _)).mono ?_; rintro e y1 ⟨rfl, hy1⟩; have HY1 : Hid (Below Z.heap.size Z y1) := hy1; have rb3 := (HRZ3.out.stay hy1).cell; have rb4 := (HRZ4.out.stay hy1).cell; clear hy1 HS1 r2 r4)
    | (go_at_call 23; refine (HS2.out _ HY1.out).mono ?_; rintro e y2 ⟨rfl, hy2⟩; have HY2 : Hid (Below Z.heap.size Z y2) := go_on HY1.out hy2; clear hy2 HS2 HY1 rb3 rb4)
    | (go_at_call 14; refine (HS3.out _ HY2.out).mono ?_; rintro e y3 ⟨rfl, hy3⟩; have HY3 : Hid (Below Z.heap.size Z y3) := go_on HY2.out hy3; have qx := (HRXZ.out.stay HY3.out).cell; have qa := (HRAZ.out.stay HY3.out).cell; clear hy3 HS3 HY2)
    | (go_at_call 16; refine (HST.out _ (go_on HZB.out HY3.out)).mono ?_; rintro e y4 ⟨rfl, hy4⟩; have HY4 : Hid (Below Z.heap.size Z y4) := go_on HY3.out hy4; have qy := (HRXZ.out.stay HY4.out).cell; have qy2 := (HRZ2.out.stay HY4.out).cell; have qy3 := (HRZ3.out.stay HY4.out).cell; clear hy4 HST HY3 qx qa)
    | (go_at_call 17; refine (HAP.out _ HY4.out).mono ?_; rintro e y5 ⟨rfl, hy5⟩; have HY5 : Hid (Below w.heap.size w y5) := (go_on (go_on (go_on HBU.out HZB.out) HY4.out) (below_new _ _)).trans hy5; clear hy5 HAP qy qy2 qy3)
    | (go_at_call 18; refine (live10_any _).mono ?_; rintro e y6 ⟨rfl, hy6⟩; have HY6 : Hid (Below w.heap.size w y6) := go_on HY5.out hy6; clear hy6))
  go_ret
  exact ⟨rfl, HY6.out⟩

/-! ### The row's step -/
theorem own : ownKnob Try.prog.godebug = none := by kernel_rfl
set_option maxRecDepth 100000 in
theorem lifted (os : Os) (started : os.Started) (H : Type) (enc : TypeId × Value → H) :
    ReturnsInHanded {} Try.checked os 4 .any (Rows.minimMakesSpec.pre6 enc Try.prog Try.f4 Rows.minimMakesRow.domain false) (Rows.minimMakesSpec.post enc Try.prog Try.f4 false true false false) := by
  refine returnsInHanded_of_change_sized (C := Try.checked) own started (by kernel_rfl) Try.func4
    (ChangeSpec.witness6 (enc := enc) (C := Try.checked) false ⟨#[], #[.agg #[.int .i64 0, .slice none 0 0, .slice none 0 0]], []⟩ 8 (by kernel_rfl) (by kernel_rfl) (by kernel_rfl) (by kernel_rfl)) ?_
  intro W base args ds gs before hval0 hW hcnd hsz0 _
  have hval : ∀ (j : Nat) t v, Try.f4.params[j]? = some t → args[j]? = some v → Value.okWide Try.prog W .any base t v := hval0
  clear hval0
  have hsz : (DataW.weightsEach Try.prog (Try.f4.params.toList ++ Rows.minimMakesSpec.plain.varTypes Try.prog) (ds ++ gs)).all (· ≤ reachBytes) = true := hsz0
  clear hsz0
  have hW' := hW
  obtain ⟨p, q, hA0, hV, rfl, hfz, hnd⟩ := hW
  have hA : DataW.TrodAll enc Try.prog W 0 (fun _ => true) true Try.f4.params.toList args.toList ds p := hA0
  rw [Try.params4] at hA hval hsz
  obtain ⟨v0, vs0, d0, ds0, p0, q0, hargs, rfl, rfl, h0, r0⟩ := trodAll_cons hA
  obtain ⟨rfl, rfl, rfl⟩ := trodAll_nil r0
  obtain rfl : args = #[v0] := by cases args; simp_all
  obtain ⟨rfl, rfl⟩ := trodVars_none hV
  obtain ⟨a0, x0, n0, w0, dk0, dn0, da0, e0, y0, z0⟩ := open_auto (hval 0 25 v0 rfl rfl) h0
  have b0 := auto_bounds40 hsz (j := 0) rfl (by rw [e0]; rfl) y0 z0
  have g0 : ∀ x ∈ p0, x.block < W.heap.size := fun x hx => hW'.lt x (by simp [hx])
  clear hA0
  refine (walk v0 a0 W x0 n0 b0.1 b0.2).mono fun e W' ⟨he, bel⟩ => ?_
  subst he
  exact ⟨_, rfl, _, _, _, [], _, [], hW', trodAll_mk1 (shut_bool Try.underlying4 _), (trodAll_cons_mk (Below.trod Try.laidOut (by kernel_rfl) (of_decide_eq_true (by kernel_rfl)) h0 bel g0) trodAll_mk0), rfl, bel.frame _, fun h => by cases h⟩

theorem over : Rows.minimMakesRow.holds Try.pinned (OpenSpec.ofChange Rows.minimMakesSpec) :=
  OpenClaim.holds_of_wide 4 Try.f4 rfl rfl rfl rfl rfl rfl rfl ⟨rfl, rfl, rfl, rfl, rfl⟩ rfl rfl rfl rfl rfl (by kernel_rfl) Try.func4 (by kernel_rfl)
    (of_decide_eq_true (by kernel_rfl)) (by unfold Func.isWrapper; first | (rw [if_pos (by decide +kernel)]; kernel_rfl) | (rw [if_neg (by decide +kernel)]; exact ⟨rfl, rfl⟩))
    (fun os started H enc _ => lifted os started H enc)

end Go.Proofs.Ythjenemmhlljfaa.minimMakes
namespace Go.Proofs.Ythjenemmhlljfaa
/-- The given statement. -/
theorem minimMakes_holds : Rows.MinimMakesSaid := minimMakes.over
end Go.Proofs.Ythjenemmhlljfaa
