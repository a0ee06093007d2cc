/- Proved: eggboxlaw08.AutoMakes answers true at every automaton's data a (P8.3, P8.4, P8.6): auto.Least, Reach and Not answer what the document's answer; what is told is the caller's own; what is handed in stays; its argument reads behind the call as before. -/
import Derived.Test.YtpaadopmmpdodaaJu
import Derived.Test.YtpaadopmmpdodaaQl
import Derived.Test.YtpaadopmmpdodaaQm
import Derived.Deep.RegionHeld3
namespace Go.Proofs.Ytpaadopmmpdodaa.autoMakes
open Go Go.ChangeShapes Go.WideShapes Go.ChangeAt Go.RowKit Go.Lib
open Go.ChangeMaps (open_string shut_string)
set_option linter.unusedVariables false

theorem rch_len {A : Aut} (G : Good A) {s : Nat} (hs : s < A.ac.length) (acc : Nat → Bool) : (rch A s acc).nx.length ≤ 32768 ∧ (rch A s acc).ac.length ≤ 4096 := by
  obtain ⟨m, n, R⟩ := rch_of G hs acc
  rw [R.is]
  simp only [List.length_map]
  have := R.nbound G
  omega
theorem reA_len (A : Aut) : (reA A).nx.length ≤ 32768 ∧ (reA A).ac.length ≤ 4096 := by
  unfold reA
  rcases chkA_cases A with ⟨hG, hc⟩ | ⟨hG, hc⟩
  · rw [if_pos hc]; exact rch_len hG (by have := hG.n1; omega) _
  · rw [if_neg (by rw [hc]; decide)]; simp [zAut]
theorem notA_len (A : Aut) : (notA A).nx.length ≤ 32768 ∧ (notA A).ac.length ≤ 4096 := by
  unfold notA
  rcases chkA_cases A with ⟨hG, hc⟩ | ⟨hG, hc⟩
  · rw [if_pos hc]; exact rch_len hG (by have := hG.n1; omega) _
  · rw [if_neg (by rw [hc]; decide)]; simp [zAut]
/-- The lists' lengths, by the form's own reach, with room for forty more. -/
theorem auto_bounds40 {H : Type} {ts : List TypeId} {ds : List (DataW H)} (h : (DataW.weightsEach Try.prog ts ds).all (· ≤ reachBytes) = true) {j : Nat} {dk dn da : DataW H} (ht : ts[j]? = some 25) (hd : ds[j]? = some (.agg [dk, dn, da])) {A : Aut}
    (h1 : (dn = .nil ∧ A.nx = []) ∨ ∃ e s, dn = .slice e s ∧ A.nx.length ≤ e.length + s.length) (h2 : (da = .nil ∧ A.ac = []) ∨ ∃ e s, da = .slice e s ∧ A.ac.length ≤ e.length + s.length) :
    A.nx.length ≤ 17592186044000 ∧ A.ac.length ≤ 140737488355328 := by
  obtain ⟨b1, b2⟩ := sized_auto h ht hd
  constructor
  · rcases h1 with ⟨_, e⟩ | ⟨e, s, he, hl⟩
    · rw [e]; decide
    · have := b1 e s he
      simp only [reachBytes] at this
      omega
  · rcases h2 with ⟨_, e⟩ | ⟨e, s, he, hl⟩
    · rw [e]; decide
    · have := b2 e s he
      simp only [reachBytes] at this
      omega

/-- A row's beginning is a row. -/
theorem own_cut {w : World} {base : Nat} {e : TypeId} {g n k cap : Nat} {xs : List Value} (h : w.ownsRow base e 1 (.slice (some ⟨g, 0, none⟩) (n + k) cap) (n + k) xs) : w.ownsRow base e 1 (.slice (some ⟨g, 0, none⟩) n cap) n (xs.take n) := by
  obtain ⟨h0, h⟩ := h
  rcases h with ⟨h, _⟩ | ⟨g', cap', cur, hv, r1, r2, r3, r4, r5, r6⟩
  · simp at h
  · simp at hv
    obtain ⟨rfl, rfl⟩ := hv
    refine ⟨by simp; omega, .inr ⟨g, cap, cur, rfl, r1, r2, by omega, r4, r5, ?_⟩⟩
    rw [← r6, List.take_take]
    congr 1
    omega
theorem apart4 {a : Nat → Option Addr} {n c : Nat → Nat} {lo hi : Nat → Nat} (h : ∀ j, j < 4 → ∀ b, (vv a n c j).ownBlock = some b → lo j ≤ b ∧ b < hi j) (hd : ∀ j j', j < 4 → j' < 4 → j ≠ j' → hi j ≤ lo j' ∨ hi j' ≤ lo j) : ∀ j j', j < 4 → j' < 4 → j ≠ j' → ∀ b, (vv a n c j).ownBlock = some b → (vv a n c j').ownBlock ≠ some b := by
  intro j j' hj hj' hne b hb hb'
  have h1 := h j hj b hb
  have h2 := h j' hj' b hb'
  rcases hd j j' hj hj' hne with h3 | h3 <;> omega
theorem four {p : Nat → Prop} (h0 : p 0) (h1 : p 1) (h2 : p 2) (h3 : p 3) : ∀ j, j < 4 → p j := by
  intro j hj
  have : j = 0 ∨ j = 1 ∨ j = 2 ∨ j = 3 := by omega
  rcases this with rfl | rfl | rfl | rfl <;> assumption
def pk {α : Type} (a b c d : α) (j : Nat) : α := match j with | 0 => a | 1 => b | 2 => c | _ => d

set_option maxHeartbeats 16000000 in
set_option maxRecDepth 100000 in
theorem walk (v : Value) (A : Aut) (w : World) (h : AR w v A) (hn : NilOk v) (hm0 : A.nx.length ≤ 17592186044000) (hm2 : A.ac.length ≤ 140737488355328) :
    Calls Try.prog 4 #[v] w fun e w' => e = .returned (.bool true) ∧ Below w.heap.size w w' := by
  have hm : (A.nx.length + 2) * 8 ≤ 140737488355328 := by omega
  have HM0 : Hid (A.nx.length ≤ 17592186044000) := hm0
  obtain ⟨an, cn, aa, ca, e, h1, h2⟩ := h.is
  have HAR : Hid (∀ w', Below w.heap.size w w' → AR w' v A) := fun w' hb => h.stay hb
  have HLE : Hid (∀ w', Below w.heap.size w w' → Calls Try.prog 7 #[v] w' (LQ A w')) := fun w' hb => lentAuto_any v A w' (h.stay hb) hn hm hm2
  clear h h1 h2 hn
  subst e
  have R1 : RowAt (w.alloc (.cells #[.int .i64 A.k, .slice an A.nx.length cn, .slice aa A.ac.length ca] 25)) w.heap.size #[.int .i64 A.k, .slice an A.nx.length cn, .slice aa A.ac.length ca] := RowAt.last _ _ _
  have HR1 : Hid (RowAt (w.alloc (.cells #[.int .i64 A.k, .slice an A.nx.length cn, .slice aa A.ac.length ca] 25)) w.heap.size #[.int .i64 A.k, .slice an A.nx.length cn, .slice aa A.ac.length ca]) := R1
  clear R1
  go_enter Try.func4, Try.ntmps4
  go_wp2_with fail
  refine (HLE.out _ (below_new _ _)).mono ?_
  rintro e w1 ⟨g, gc, ba, bc, rfl, hi1, hb1, hl1⟩
  have HI1 : Hid _ := hi1
  have HBO : Hid _ := hb1
  have HB1 : Hid (Below w.heap.size w w1) := go_on (below_new _ _) hl1
  have HRA : Hid (RowAt w1 w.heap.size #[.int .i64 A.k, .slice an A.nx.length cn, .slice aa A.ac.length ca]) := HR1.out.stay hl1
  clear hi1 hb1 hl1 HLE HR1
  have RX : RowAt (w1.alloc (.cells #[.int .i64 A.k, .slice (some ⟨g, 0, none⟩) A.nx.length gc, .slice ba A.ac.length bc] 25)) w1.heap.size #[.int .i64 A.k, .slice (some ⟨g, 0, none⟩) A.nx.length gc, .slice ba A.ac.length bc] := RowAt.last _ _ _
  obtain ⟨W, hW⟩ : ∃ W, W = w1.alloc (.cells #[.int .i64 A.k, .slice (some ⟨g, 0, none⟩) A.nx.length gc, .slice ba A.ac.length bc] 25) := ⟨_, rfl⟩
  have HWE : Hid (W = w1.alloc (.cells #[.int .i64 A.k, .slice (some ⟨g, 0, none⟩) A.nx.length gc, .slice ba A.ac.length bc] 25)) := hW
  have hWb : Below w1.heap.size w1 W := by rw [hW]; exact below_new _ _
  rw [← hW] at RX
  have HRX : Hid (RowAt W w1.heap.size #[.int .i64 A.k, .slice (some ⟨g, 0, none⟩) A.nx.length gc, .slice ba A.ac.length bc]) := RX
  have HRAW : Hid (RowAt W w.heap.size #[.int .i64 A.k, .slice an A.nx.length cn, .slice aa A.ac.length ca]) := HRA.out.stay hWb
  have HBW : Hid (Below w.heap.size w W) := go_on HB1.out hWb
  have HX : Hid (∀ y, Below W.heap.size W y → AR y (.agg #[.int .i64 A.k, .slice (some ⟨g, 0, none⟩) A.nx.length gc, .slice ba A.ac.length bc]) A) := fun y hy => ⟨_, _, _, _, rfl, (lent_sr HI1.out).stay (hWb.trans (hy.mono hWb.size)), (own_sr HBO.out).stay (hWb.trans (hy.mono hWb.size))⟩
  have HSTY : Hid (∀ y, Below W.heap.size W y → Calls Try.prog 15 #[.agg #[.int .i64 A.k, .slice (some ⟨g, 0, none⟩) A.nx.length gc, .slice ba A.ac.length bc], .agg #[.int .i64 A.k, .slice an A.nx.length cn, .slice aa A.ac.length ca]] y fun e w' => e = .returned (.bool true) ∧ Below y.heap.size y w') := fun y hy =>
    stay8_any A y _ (HAR.out y (go_on HBW.out hy)) _ g gc ba bc (by omega) (by omega) (own_below (own_below HI1.out hWb) hy) (((own_sr HBO.out).stay hWb).stay hy)
  have hn1 : A.nx.length ≤ 9223372036854775806 := by omega
  have hn2 : A.ac.length ≤ 9223372036854775806 := by omega
  clear hW hWb RX HRA
  go_wp2_with fail
  rw [← HWE.out]
  obtain ⟨lw, hlw⟩ : ∃ x, lsW A = x := ⟨_, rfl⟩
  obtain ⟨lf, hlf⟩ : ∃ x, lsF A = x := ⟨_, rfl⟩
  obtain ⟨ck, hck⟩ : ∃ x, chkA A = x := ⟨_, rfl⟩
  obtain ⟨B, hB⟩ : ∃ x, reA A = x := ⟨_, rfl⟩
  obtain ⟨N, hN⟩ : ∃ x, notA A = x := ⟨_, rfl⟩
  have C1 : Hid (∀ y, Below W.heap.size W y → Calls Try.prog 17 #[.agg #[.int .i64 A.k, .slice (some ⟨g, 0, none⟩) A.nx.length gc, .slice ba A.ac.length bc]] y fun e w' => e = .returned (.tuple #[.string lw, .bool lf, .int .i64 ck]) ∧ Below y.heap.size y w') := fun y hy => by rw [← hlw, ← hlf, ← hck]; exact least_any _ A y (HX.out y hy) hn1 hn2
  have C2 : Hid (∀ y, Below W.heap.size W y → Calls Try.prog 18 #[.agg #[.int .i64 A.k, .slice an A.nx.length cn, .slice aa A.ac.length ca]] y fun e w' => e = .returned (.tuple #[.string lw, .bool lf, .int .i64 ck]) ∧ Below y.heap.size y w') := fun y hy => by rw [← hlw, ← hlf, ← hck]; exact rleast_any _ A y (HAR.out y (go_on HBW.out hy)) hn1 hn2
  have C3 : Hid (∀ y, Below W.heap.size W y → Calls Try.prog 19 #[.agg #[.int .i64 A.k, .slice (some ⟨g, 0, none⟩) A.nx.length gc, .slice ba A.ac.length bc]] y (FQ B ck y)) := fun y hy => by rw [← hB, ← hck]; exact reach_any _ A y (HX.out y hy) hn1 hn2
  have C4 : Hid (∀ y, Below W.heap.size W y → Calls Try.prog 20 #[.agg #[.int .i64 A.k, .slice an A.nx.length cn, .slice aa A.ac.length ca]] y (FQ B ck y)) := fun y hy => by rw [← hB, ← hck]; exact rreach_any _ A y (HAR.out y (go_on HBW.out hy)) hn1 hn2
  have C5 : Hid (∀ y, Below W.heap.size W y → Calls Try.prog 21 #[.agg #[.int .i64 A.k, .slice (some ⟨g, 0, none⟩) A.nx.length gc, .slice ba A.ac.length bc]] y (FQ N ck y)) := fun y hy => by rw [← hN, ← hck]; exact not_any _ A y (HX.out y hy) hn1 hn2
  have C6 : Hid (∀ y, Below W.heap.size W y → Calls Try.prog 22 #[.agg #[.int .i64 A.k, .slice an A.nx.length cn, .slice aa A.ac.length ca]] y (FQ N ck y)) := fun y hy => by rw [← hN, ← hck]; exact rnot_any _ A y (HAR.out y (go_on HBW.out hy)) hn1 hn2
  have HLB : Hid (B.nx.length ≤ 32768 ∧ B.ac.length ≤ 4096) := by rw [← hB]; exact reA_len A
  have HLN : Hid (N.nx.length ≤ 32768 ∧ N.ac.length ≤ 4096) := by rw [← hN]; exact notA_len A
  clear hlw hlf hck hB hN hm hm0 hm2 hn1 hn2
  refine (C1.out _ (Below.refl _ _)).mono ?_
  rintro e w2 ⟨rfl, hb2⟩
  have HB2 : Hid (Below W.heap.size W w2) := hb2
  have cs2 := (HRAW.out.stay hb2).cell
  clear hb2 C1
  go_wp2_with fail
  refine (C2.out _ HB2.out).mono ?_
  rintro e w3 ⟨rfl, hb3⟩
  have HB3 : Hid (Below W.heap.size W w3) := go_on HB2.out hb3
  have cs3 := (HRX.out.stay HB3.out).cell
  clear hb3 cs2 C2
  go_wp2_with fail
  refine (C3.out _ HB3.out).mono ?_
  rintro e w4 ⟨v4, rfl, ha4, hb4⟩
  have HB4 : Hid (Below W.heap.size W w4) := go_on HB3.out hb4
  obtain ⟨n4, c4, a4, d4, rfl, o4, p4⟩ := ha4
  have HO4 : Hid (w4.ownsRow w3.heap.size 3 1 (.slice n4 B.nx.length c4) B.nx.length (zC B.nx)) := o4
  have HP4 : Hid (w4.ownsRow w3.heap.size 4 1 (.slice a4 B.ac.length d4) B.ac.length (bC B.ac)) := p4
  have HG4 : Hid (Below w3.heap.size w3 w4) := hb4
  have cs4 : ∀ O o, (w4.alloc O).cell? _ = _ := fun O => ((HRX.out.stay HB4.out).alloc O).cell
  have ct4 := (HRX.out.stay HB4.out).cell
  clear hb4 o4 p4
  clear cs3
  go_wp2_with fail
  refine (C3.out _ (go_on HB4.out (below_new _ _))).mono ?_
  rintro e w5 ⟨v5, rfl, ha5, hb5⟩
  have HB5 : Hid (Below W.heap.size W w5) := go_on (go_on HB4.out (below_new _ _)) hb5
  obtain ⟨n5, c5, a5, d5, rfl, o5, p5⟩ := ha5
  have HO5 : Hid (w5.ownsRow (w4.alloc (.cells #[.int .i64 B.k, .slice n4 B.nx.length c4, .slice a4 B.ac.length d4] 25)).heap.size 3 1 (.slice n5 B.nx.length c5) B.nx.length (zC B.nx)) := o5
  have HP5 : Hid (w5.ownsRow (w4.alloc (.cells #[.int .i64 B.k, .slice n4 B.nx.length c4, .slice a4 B.ac.length d4] 25)).heap.size 4 1 (.slice a5 B.ac.length d5) B.ac.length (bC B.ac)) := p5
  have HG5 : Hid (Below (w4.alloc (.cells #[.int .i64 B.k, .slice n4 B.nx.length c4, .slice a4 B.ac.length d4] 25)).heap.size (w4.alloc (.cells #[.int .i64 B.k, .slice n4 B.nx.length c4, .slice a4 B.ac.length d4] 25)) w5) := hb5
  have cs5 : ∀ O o, (w5.alloc O).cell? _ = _ := fun O => ((HRAW.out.stay HB5.out).alloc O).cell
  have ct5 := (HRAW.out.stay HB5.out).cell
  clear hb5 o5 p5
  clear cs4 ct4
  go_wp2_with fail
  refine (C4.out _ (go_on HB5.out (below_new _ _))).mono ?_
  rintro e w6 ⟨v6, rfl, ha6, hb6⟩
  have HB6 : Hid (Below W.heap.size W w6) := go_on (go_on HB5.out (below_new _ _)) hb6
  obtain ⟨n6, c6, a6, d6, rfl, o6, p6⟩ := ha6
  have HO6 : Hid (w6.ownsRow (w5.alloc (.cells #[.int .i64 B.k, .slice n5 B.nx.length c5, .slice a5 B.ac.length d5] 25)).heap.size 3 1 (.slice n6 B.nx.length c6) B.nx.length (zC B.nx)) := o6
  have HP6 : Hid (w6.ownsRow (w5.alloc (.cells #[.int .i64 B.k, .slice n5 B.nx.length c5, .slice a5 B.ac.length d5] 25)).heap.size 4 1 (.slice a6 B.ac.length d6) B.ac.length (bC B.ac)) := p6
  have HG6 : Hid (Below (w5.alloc (.cells #[.int .i64 B.k, .slice n5 B.nx.length c5, .slice a5 B.ac.length d5] 25)).heap.size (w5.alloc (.cells #[.int .i64 B.k, .slice n5 B.nx.length c5, .slice a5 B.ac.length d5] 25)) w6) := hb6
  have cs6 : ∀ O o, (w6.alloc O).cell? _ = _ := fun O => ((HRX.out.stay HB6.out).alloc O).cell
  have ct6 := (HRX.out.stay HB6.out).cell
  clear hb6 o6 p6
  clear cs5 ct5
  go_wp2_with fail
  refine (C5.out _ (go_on HB6.out (below_new _ _))).mono ?_
  rintro e w7 ⟨v7, rfl, ha7, hb7⟩
  have HB7 : Hid (Below W.heap.size W w7) := go_on (go_on HB6.out (below_new _ _)) hb7
  obtain ⟨n7, c7, a7, d7, rfl, o7, p7⟩ := ha7
  have HO7 : Hid (w7.ownsRow (w6.alloc (.cells #[.int .i64 B.k, .slice n6 B.nx.length c6, .slice a6 B.ac.length d6] 25)).heap.size 3 1 (.slice n7 N.nx.length c7) N.nx.length (zC N.nx)) := o7
  have HP7 : Hid (w7.ownsRow (w6.alloc (.cells #[.int .i64 B.k, .slice n6 B.nx.length c6, .slice a6 B.ac.length d6] 25)).heap.size 4 1 (.slice a7 N.ac.length d7) N.ac.length (bC N.ac)) := p7
  have HG7 : Hid (Below (w6.alloc (.cells #[.int .i64 B.k, .slice n6 B.nx.length c6, .slice a6 B.ac.length d6] 25)).heap.size (w6.alloc (.cells #[.int .i64 B.k, .slice n6 B.nx.length c6, .slice a6 B.ac.length d6] 25)) w7) := hb7
  have cs7 : ∀ O o, (w7.alloc O).cell? _ = _ := fun O => ((HRAW.out.stay HB7.out).alloc O).cell
  have ct7 := (HRAW.out.stay HB7.out).cell
  clear hb7 o7 p7
  clear cs6 ct6
  go_wp2_with fail
  refine (C6.out _ (go_on HB7.out (below_new _ _))).mono ?_
  rintro e w8 ⟨v8, rfl, ha8, hb8⟩
  have HB8 : Hid (Below W.heap.size W w8) := go_on (go_on HB7.out (below_new _ _)) hb8
  obtain ⟨n8, c8, a8, d8, rfl, o8, p8⟩ := ha8
  have HO8 : Hid (w8.ownsRow (w7.alloc (.cells #[.int .i64 N.k, .slice n7 N.nx.length c7, .slice a7 N.ac.length d7] 25)).heap.size 3 1 (.slice n8 N.nx.length c8) N.nx.length (zC N.nx)) := o8
  have HP8 : Hid (w8.ownsRow (w7.alloc (.cells #[.int .i64 N.k, .slice n7 N.nx.length c7, .slice a7 N.ac.length d7] 25)).heap.size 4 1 (.slice a8 N.ac.length d8) N.ac.length (bC N.ac)) := p8
  have HG8 : Hid (Below (w7.alloc (.cells #[.int .i64 N.k, .slice n7 N.nx.length c7, .slice a7 N.ac.length d7] 25)).heap.size (w7.alloc (.cells #[.int .i64 N.k, .slice n7 N.nx.length c7, .slice a7 N.ac.length d7] 25)) w8) := hb8
  have cs8 : ∀ O o, (w8.alloc O).cell? _ = _ := fun O => ((HRX.out.stay HB8.out).alloc O).cell
  have ct8 := (HRX.out.stay HB8.out).cell
  clear hb8 o8 p8
  clear cs7 ct7 cs8 ct8
  obtain ⟨Z, hZ⟩ : ∃ Z, Z = (w8.alloc (.cells #[.int .i64 N.k, .slice n8 N.nx.length c8, .slice a8 N.ac.length d8] 25)) := ⟨_, rfl⟩
  have HZE : Hid (Z = (w8.alloc (.cells #[.int .i64 N.k, .slice n8 N.nx.length c8, .slice a8 N.ac.length d8] 25))) := hZ
  have E8 : Below w8.heap.size w8 Z := by rw [hZ]; exact below_new _ _
  have R8 : RowAt Z w8.heap.size #[.int .i64 N.k, .slice n8 N.nx.length c8, .slice a8 N.ac.length d8] := by rw [hZ]; exact RowAt.last _ _ _
  have E7 := go_on HG8.out E8
  have E7' := go_on (below_new w7 (.cells #[.int .i64 N.k, .slice n7 N.nx.length c7, .slice a7 N.ac.length d7] 25)) E7
  have E6 := go_on HG7.out E7'
  have E6' := go_on (below_new w6 (.cells #[.int .i64 B.k, .slice n6 B.nx.length c6, .slice a6 B.ac.length d6] 25)) E6
  have E5 := go_on HG6.out E6'
  have E5' := go_on (below_new w5 (.cells #[.int .i64 B.k, .slice n5 B.nx.length c5, .slice a5 B.ac.length d5] 25)) E5
  have E4 := go_on HG5.out E5'
  have E4' := go_on (below_new w4 (.cells #[.int .i64 B.k, .slice n4 B.nx.length c4, .slice a4 B.ac.length d4] 25)) E4
  have HZB : Hid (Below W.heap.size W Z) := go_on HB8.out E8
  have HR8 : Hid (RowAt Z w8.heap.size #[.int .i64 N.k, .slice n8 N.nx.length c8, .slice a8 N.ac.length d8]) := R8
  have HR7 : Hid (RowAt Z w7.heap.size #[.int .i64 N.k, .slice n7 N.nx.length c7, .slice a7 N.ac.length d7]) := (RowAt.last _ _ _).stay E7
  have HR6 : Hid (RowAt Z w6.heap.size #[.int .i64 B.k, .slice n6 B.nx.length c6, .slice a6 B.ac.length d6]) := (RowAt.last _ _ _).stay E6
  have HR5 : Hid (RowAt Z w5.heap.size #[.int .i64 B.k, .slice n5 B.nx.length c5, .slice a5 B.ac.length d5]) := (RowAt.last _ _ _).stay E5
  have HR4 : Hid (RowAt Z w4.heap.size #[.int .i64 B.k, .slice n4 B.nx.length c4, .slice a4 B.ac.length d4]) := (RowAt.last _ _ _).stay E4
  have HRXZ : Hid (RowAt Z w1.heap.size #[.int .i64 A.k, .slice (some ⟨g, 0, none⟩) A.nx.length gc, .slice ba A.ac.length bc]) := HRX.out.stay HZB.out
  have HRAZ : Hid (RowAt Z w.heap.size #[.int .i64 A.k, .slice an A.nx.length cn, .slice aa A.ac.length ca]) := HRAW.out.stay HZB.out
  have HS1 : Hid (∀ y, Below Z.heap.size Z y → Calls Try.prog 23 #[(.agg #[.int .i64 B.k, .slice n4 B.nx.length c4, .slice a4 B.ac.length d4]), (.agg #[.int .i64 B.k, .slice n6 B.nx.length c6, .slice a6 B.ac.length d6])] y fun e w' => e = .returned (.bool true) ∧ Below y.heap.size y w') := fun y hy => sameAuto_any _ _ B y ⟨_, _, _, _, rfl, ((own_sr HO4.out).stay E4').stay hy, ((own_sr HP4.out).stay E4').stay hy⟩ ⟨_, _, _, _, rfl, ((own_sr HO6.out).stay E6').stay hy, ((own_sr HP6.out).stay E6').stay hy⟩ (by have := HLB.out; omega) (by have := HLB.out; omega)
  have HS2 : Hid (∀ y, Below Z.heap.size Z y → Calls Try.prog 23 #[(.agg #[.int .i64 B.k, .slice n5 B.nx.length c5, .slice a5 B.ac.length d5]), (.agg #[.int .i64 B.k, .slice n6 B.nx.length c6, .slice a6 B.ac.length d6])] y fun e w' => e = .returned (.bool true) ∧ Below y.heap.size y w') := fun y hy => sameAuto_any _ _ B y ⟨_, _, _, _, rfl, ((own_sr HO5.out).stay E5').stay hy, ((own_sr HP5.out).stay E5').stay hy⟩ ⟨_, _, _, _, rfl, ((own_sr HO6.out).stay E6').stay hy, ((own_sr HP6.out).stay E6').stay hy⟩ (by have := HLB.out; omega) (by have := HLB.out; omega)
  have HS3 : Hid (∀ y, Below Z.heap.size Z y → Calls Try.prog 23 #[(.agg #[.int .i64 N.k, .slice n7 N.nx.length c7, .slice a7 N.ac.length d7]), (.agg #[.int .i64 N.k, .slice n8 N.nx.length c8, .slice a8 N.ac.length d8])] y fun e w' => e = .returned (.bool true) ∧ Below y.heap.size y w') := fun y hy => sameAuto_any _ _ N y ⟨_, _, _, _, rfl, ((own_sr HO7.out).stay E7').stay hy, ((own_sr HP7.out).stay E7').stay hy⟩ ⟨_, _, _, _, rfl, ((own_sr HO8.out).stay E8).stay hy, ((own_sr HP8.out).stay E8).stay hy⟩ (by have := HLN.out; omega) (by have := HLN.out; omega)
  have HAP : Hid (∀ y, Below Z.heap.size Z y → Calls Try.prog 24 #[.slice (some ⟨y.heap.size, 0, none⟩) 4 4] (y.alloc (.cells #[.slice n4 B.nx.length c4, .slice n5 B.nx.length c5, .slice n7 N.nx.length c7, .slice (some ⟨g, 0, none⟩) A.nx.length gc] 22)) fun e w' => e = .returned (.bool true) ∧ Below w.heap.size (y.alloc (.cells #[.slice n4 B.nx.length c4, .slice n5 B.nx.length c5, .slice n7 N.nx.length c7, .slice (some ⟨g, 0, none⟩) A.nx.length gc] 22)) w') := by
    intro y hy
    have EW : Below w1.heap.size w1 W := by rw [HWE.out]; exact below_new _ _
    have EX := go_on EW HZB.out
    have s0 := HBW.out.size
    have s1 := EW.size
    have s3 := HB3.out.size
    have s4 : (w4.alloc (.cells #[.int .i64 B.k, .slice n4 B.nx.length c4, .slice a4 B.ac.length d4] 25)).heap.size = w4.heap.size + 1 := by simp
    have s5 := HG5.out.size
    have s6 : (w5.alloc (.cells #[.int .i64 B.k, .slice n5 B.nx.length c5, .slice a5 B.ac.length d5] 25)).heap.size = w5.heap.size + 1 := by simp
    have s7 := HG6.out.size
    have s8 : (w6.alloc (.cells #[.int .i64 B.k, .slice n6 B.nx.length c6, .slice a6 B.ac.length d6] 25)).heap.size = w6.heap.size + 1 := by simp
    have s9 := HG7.out.size
    have s10 := E7'.size
    have s11 := hy.size
    have sb := HB1.out.size
    have s12 : w.heap.size ≤ w3.heap.size := by omega
    have s13 : w.heap.size ≤ (w4.alloc (.cells #[.int .i64 B.k, .slice n4 B.nx.length c4, .slice a4 B.ac.length d4] 25)).heap.size := by
      have := HB4.out.size
      omega
    have s14 : w.heap.size ≤ (w6.alloc (.cells #[.int .i64 B.k, .slice n6 B.nx.length c6, .slice a6 B.ac.length d6] 25)).heap.size := by
      have := HB6.out.size
      omega
    have s4b := HB4.out.size
    have l3 : w3.heap.size ≤ w4.heap.size ∨ w4.heap.size < w3.heap.size := by omega
    have xr : w1.ownsRow w.heap.size 3 1 (.slice (some ⟨g, 0, none⟩) A.nx.length gc) A.nx.length (zC A.nx) := by
      have h1 := own_cut (n := A.nx.length) (k := 2) HI1.out
      have e : (zC (A.nx ++ [-77, -78])).take A.nx.length = zC A.nx := by simp [zC]
      rw [e] at h1
      exact own_mono h1 (by simp)
    refine apart_any w.heap.size y.heap.size (pk n4 n5 n7 (some ⟨g, 0, none⟩)) (pk B.nx.length B.nx.length N.nx.length A.nx.length) (pk c4 c5 c7 gc) (pk (zC B.nx) (zC B.nx) (zC N.nx) (zC A.nx)) _ (heap_alloc_last y _) (four ?_ ?_ ?_ ?_) (four ?_ ?_ ?_ ?_) (four ?_ ?_ ?_ ?_) (apart4 (lo := pk w3.heap.size (w4.alloc (.cells #[.int .i64 B.k, .slice n4 B.nx.length c4, .slice a4 B.ac.length d4] 25)).heap.size (w6.alloc (.cells #[.int .i64 B.k, .slice n6 B.nx.length c6, .slice a6 B.ac.length d6] 25)).heap.size w.heap.size) (hi := pk w4.heap.size w5.heap.size w7.heap.size w1.heap.size) (four ?_ ?_ ?_ ?_) ?_) (by simp; omega)
    · exact own_mono ((own_below (own_below HO4.out E4') hy).alloc _) s12
    · exact own_mono ((own_below (own_below HO5.out E5') hy).alloc _) s13
    · exact own_mono ((own_below (own_below HO7.out E7') hy).alloc _) s14
    · exact (own_below (own_below xr EX) hy).alloc _
    · have := HLB.out; show B.nx.length ≤ _; omega
    · have := HLB.out; show B.nx.length ≤ _; omega
    · have := HLN.out; show N.nx.length ≤ _; omega
    · exact HM0.out
    · show (zC B.nx).length = B.nx.length; simp [zC]
    · show (zC B.nx).length = B.nx.length; simp [zC]
    · show (zC N.nx).length = N.nx.length; simp [zC]
    · show (zC A.nx).length = A.nx.length; simp [zC]
    · exact fun b hb => HO4.out.lt b hb
    · exact fun b hb => HO5.out.lt b hb
    · exact fun b hb => HO7.out.lt b hb
    · exact fun b hb => xr.lt b hb
    · intro j j' hj hj' hne
      have k1 : j = 0 ∨ j = 1 ∨ j = 2 ∨ j = 3 := by omega
      have k2 : j' = 0 ∨ j' = 1 ∨ j' = 2 ∨ j' = 3 := by omega
      have z34 := HG4.out.size
      rcases k1 with rfl | rfl | rfl | rfl <;> rcases k2 with rfl | rfl | rfl | rfl <;> simp only [pk] <;> omega
  clear hZ E8 E7 E7' E6 E6' E5 E5' E4 E4' R8 C3 C4 C5 C6
  have q4 := HR4.out.cell
  have q6 := HR6.out.cell
  go_wp2_with fail
  rw [← HZE.out]
  go_wp2_with (first
    | (go_at_call 12; refine (num8_any _ _).mono ?_; rintro e yn ⟨rfl, hyn⟩; subst yn)
    | (go_at_call 23; refine (HS1.out _ (Below.refl _ _)).mono ?_; rintro e y1 ⟨rfl, hy1⟩; have HY1 : Hid (Below Z.heap.size Z y1) := hy1; have qb5 := (HR5.out.stay hy1).cell; have qb6 := (HR6.out.stay hy1).cell; clear hy1 HS1 q4 q6)
    | (go_at_call 23; refine (HS2.out _ HY1.out).mono ?_; rintro e y2 ⟨rfl, hy2⟩; have HY2 : Hid (Below Z.heap.size Z y2) := go_on HY1.out hy2; have q7 := (HR7.out.stay HY2.out).cell; have q8 := (HR8.out.stay HY2.out).cell; clear hy2 HS2 HY1 qb5 qb6)
    | (go_at_call 23; refine (HS3.out _ HY2.out).mono ?_; rintro e y3 ⟨rfl, hy3⟩; have HY3 : Hid (Below Z.heap.size Z y3) := go_on HY2.out hy3; have qe1 := (HRXZ.out.stay HY3.out).cell; have qe2 := (HRAZ.out.stay HY3.out).cell; clear hy3 HS3 HY2 q7 q8)
    | (go_at_call 15; refine (HSTY.out _ (go_on HZB.out HY3.out)).mono ?_; rintro e y4 ⟨rfl, hy4⟩; have HY4 : Hid (Below Z.heap.size Z y4) := go_on HY3.out hy4; have qf1 := (HRXZ.out.stay HY4.out).cell; have qf4 := (HR4.out.stay HY4.out).cell; have qf5 := (HR5.out.stay HY4.out).cell; have qf7 := (HR7.out.stay HY4.out).cell; clear hy4 HSTY HY3 qe1 qe2)
    | (go_at_call 24; refine (HAP.out _ HY4.out).mono ?_; rintro e y5 ⟨rfl, hy5⟩; have HY5 : Hid (Below w.heap.size w y5) := (go_on (go_on (go_on HBW.out HZB.out) HY4.out) (below_new _ _)).trans hy5; clear hy5 HAP qf1 qf4 qf5 qf7)
    | (go_at_call 16; refine (live8_any _).mono ?_; rintro e y6 ⟨rfl, hy6⟩; have HY6 : Hid (Below w.heap.size w y6) := go_on HY5.out hy6; clear hy6))
  go_ret
  exact ⟨rfl, HY6.out⟩

/-! ### The row's step -/
theorem own : ownKnob Try.prog.godebug = none := by kernel_rfl
set_option maxRecDepth 100000 in
theorem lifted (os : Os) (started : os.Started) (H : Type) (enc : TypeId × Value → H) :
    ReturnsInHanded {} Try.checked os 4 .any (Rows.autoMakesSpec.pre6 enc Try.prog Try.f4 Rows.autoMakesRow.domain false) (Rows.autoMakesSpec.post enc Try.prog Try.f4 false true false false) := by
  refine returnsInHanded_of_change_sized (C := Try.checked) own started (by kernel_rfl) Try.func4
    (ChangeSpec.witness6 (enc := enc) (C := Try.checked) false ⟨#[], #[.agg #[.int .i64 0, .slice none 0 0, .slice none 0 0]], []⟩ 8 (by kernel_rfl) (by kernel_rfl) (by kernel_rfl) (by kernel_rfl)) ?_
  intro W base args ds gs before hval0 hW hcnd hsz0 _
  have hval : ∀ (j : Nat) t v, Try.f4.params[j]? = some t → args[j]? = some v → Value.okWide Try.prog W .any base t v := hval0
  clear hval0
  have hsz : (DataW.weightsEach Try.prog (Try.f4.params.toList ++ Rows.autoMakesSpec.plain.varTypes Try.prog) (ds ++ gs)).all (· ≤ reachBytes) = true := hsz0
  clear hsz0
  have hW' := hW
  obtain ⟨p, q, hA0, hV, rfl, hfz, hnd⟩ := hW
  have hA : DataW.TrodAll enc Try.prog W 0 (fun _ => true) true Try.f4.params.toList args.toList ds p := hA0
  rw [Try.params4] at hA hval hsz
  obtain ⟨v0, vs0, d0, ds0, p0, q0, hargs, rfl, rfl, h0, r0⟩ := trodAll_cons hA
  obtain ⟨rfl, rfl, rfl⟩ := trodAll_nil r0
  obtain rfl : args = #[v0] := by cases args; simp_all
  obtain ⟨rfl, rfl⟩ := trodVars_none hV
  obtain ⟨a0, x0, n0, w0, dk0, dn0, da0, e0, y0, z0⟩ := open_auto (hval 0 25 v0 rfl rfl) h0
  have b0 := auto_bounds40 hsz (j := 0) rfl (by rw [e0]; rfl) y0 z0
  have g0 : ∀ x ∈ p0, x.block < W.heap.size := fun x hx => hW'.lt x (by simp [hx])
  clear hA0
  refine (walk v0 a0 W x0 n0 b0.1 b0.2).mono fun e W' ⟨he, bel⟩ => ?_
  subst he
  exact ⟨_, rfl, _, _, _, [], _, [], hW', trodAll_mk1 (shut_bool Try.underlying4 _), (trodAll_cons_mk (Below.trod Try.laidOut (by kernel_rfl) (of_decide_eq_true (by kernel_rfl)) h0 bel g0) trodAll_mk0), rfl, bel.frame _, fun h => by cases h⟩

theorem over : Rows.autoMakesRow.holds Try.pinned (OpenSpec.ofChange Rows.autoMakesSpec) :=
  OpenClaim.holds_of_wide 4 Try.f4 rfl rfl rfl rfl rfl rfl rfl ⟨rfl, rfl, rfl, rfl, rfl⟩ rfl rfl rfl rfl rfl (by kernel_rfl) Try.func4 (by kernel_rfl)
    (of_decide_eq_true (by kernel_rfl)) (by unfold Func.isWrapper; first | (rw [if_pos (by decide +kernel)]; kernel_rfl) | (rw [if_neg (by decide +kernel)]; exact ⟨rfl, rfl⟩))
    (fun os started H enc _ => lifted os started H enc)

end Go.Proofs.Ytpaadopmmpdodaa.autoMakes
namespace Go.Proofs.Ytpaadopmmpdodaa
/-- The given statement. -/
theorem autoMakes_holds : Rows.AutoMakesSaid := autoMakes.over
end Go.Proofs.Ytpaadopmmpdodaa
