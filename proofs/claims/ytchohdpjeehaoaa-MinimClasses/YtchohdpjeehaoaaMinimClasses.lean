/- Proved: eggboxlaw10.MinimClasses answers true at every automaton's data a and every n (P10.1): minim.Classes and Level answer what the document's do; the lists are the caller's own; what is handed in stays; its arguments read behind the call as before. -/
import Derived.Test.YtchohdpjeehaoaaJu
import Derived.Test.YtchohdpjeehaoaaQlc
import Derived.Test.YtchohdpjeehaoaaMp
import Derived.Test.YtchohdpjeehaoaaMt
import Derived.Deep.RegionHeld3
namespace Go.Proofs.Ytchohdpjeehaoaa.minimClasses
open Go Go.ChangeShapes Go.WideShapes Go.ChangeAt Go.RowKit Go.Lib
open Go.ChangeMaps (open_string shut_string)
set_option linter.unusedVariables false

/-- The lists' lengths, by the form's own reach, with room for forty more. -/
theorem auto_bounds40 {H : Type} {ts : List TypeId} {ds : List (DataW H)} (h : (DataW.weightsEach Try.prog ts ds).all (· ≤ reachBytes) = true) {j : Nat} {dk dn da : DataW H} (ht : ts[j]? = some 25) (hd : ds[j]? = some (.agg [dk, dn, da])) {A : Aut}
    (h1 : (dn = .nil ∧ A.nx = []) ∨ ∃ e s, dn = .slice e s ∧ A.nx.length ≤ e.length + s.length) (h2 : (da = .nil ∧ A.ac = []) ∨ ∃ e s, da = .slice e s ∧ A.ac.length ≤ e.length + s.length) :
    A.nx.length ≤ 17592186044000 ∧ A.ac.length ≤ 140737488355328 := by
  obtain ⟨b1, b2⟩ := sized_auto h ht hd
  constructor
  · rcases h1 with ⟨_, e⟩ | ⟨e, s, he, hl⟩
    · rw [e]; decide
    · have := b1 e s he
      simp only [reachBytes] at this
      omega
  · rcases h2 with ⟨_, e⟩ | ⟨e, s, he, hl⟩
    · rw [e]; decide
    · have := b2 e s he
      simp only [reachBytes] at this
      omega

/-- A row's beginning is a row. -/
theorem own_cut {w : World} {base : Nat} {e : TypeId} {g n k cap : Nat} {xs : List Value} (h : w.ownsRow base e 1 (.slice (some ⟨g, 0, none⟩) (n + k) cap) (n + k) xs) : w.ownsRow base e 1 (.slice (some ⟨g, 0, none⟩) n cap) n (xs.take n) := by
  obtain ⟨h0, h⟩ := h
  rcases h with ⟨h, _⟩ | ⟨g', cap', cur, hv, r1, r2, r3, r4, r5, r6⟩
  · simp at h
  · simp at hv
    obtain ⟨rfl, rfl⟩ := hv
    refine ⟨by simp; omega, .inr ⟨g, cap, cur, rfl, r1, r2, by omega, r4, r5, ?_⟩⟩
    rw [← r6, List.take_take]
    congr 1
    omega
theorem apart3 {a : Nat → Option Addr} {n c : Nat → Nat} {lo hi : Nat → Nat} (h : ∀ j, j < 3 → ∀ b, (vv a n c j).ownBlock = some b → lo j ≤ b ∧ b < hi j) (hd : ∀ j j', j < 3 → j' < 3 → j ≠ j' → hi j ≤ lo j' ∨ hi j' ≤ lo j) : ∀ j j', j < 3 → j' < 3 → j ≠ j' → ∀ b, (vv a n c j).ownBlock = some b → (vv a n c j').ownBlock ≠ some b := by
  intro j j' hj hj' hne b hb hb'
  have h1 := h j hj b hb
  have h2 := h j' hj' b hb'
  rcases hd j j' hj hj' hne with h3 | h3 <;> omega
theorem three {p : Nat → Prop} (h0 : p 0) (h1 : p 1) (h2 : p 2) : ∀ j, j < 3 → p j := by
  intro j hj
  have : j = 0 ∨ j = 1 ∨ j = 2 := by omega
  rcases this with rfl | rfl | rfl <;> assumption
def pk3 {α : Type} (a b c : α) : Nat → α
  | 0 => a
  | 1 => b
  | _ => c
theorem facts (A : Aut) (hm : A.nx.length ≤ 9223372036854775806) (hm2 : A.ac.length ≤ 9223372036854775806) (n : Int) (hn : n ≤ 9223372036854775807) : ∃ P R : List Nat, ∃ E F : Int, P.length ≤ 4096 ∧ R.length ≤ 4096 ∧
    (∀ y x, AR y x A → Calls Try.prog 10 #[x] y (NQ P E y)) ∧
    (∀ y x, AR y x A → Calls Try.prog 11 #[x] y (NQ P E y)) ∧
    (∀ y x, AR y x A → Calls Try.prog 12 #[x, .int .i64 n] y (NQ R F y)) ∧
    (∀ y x, AR y x A → Calls Try.prog 13 #[x, .int .i64 n] y (NQ R F y)) := by
  refine ⟨clL A, lvL A n, chkA A, lvE A n, ?_, ?_, fun y x h => classes_any x A y h hm hm2, fun y x h => rclasses_any x A y h hm hm2, fun y x h => level_any x A y h hm hm2 n hn, fun y x h => rlevel_any x A y h hm hm2 n hn⟩
  · unfold clL
    split
    · rename_i hc
      rw [lvl_len]; exact (chkA_good hc).n2
    · simp
  · unfold lvL
    split
    · rename_i hc
      rw [lvl_len]
      rcases chkA_cases A with ⟨G, _⟩ | ⟨G, _⟩
      · exact G.n2
      · rw [(lvE_bad G n).1] at hc; cases hc
    · simp

set_option maxHeartbeats 16000000 in
set_option maxRecDepth 100000 in
theorem walk (va : Value) (A : Aut) (n : Int) (w : World) (ha : AR w va A) (hna : NilOk va) (hma : A.nx.length ≤ 17592186044000) (hma2 : A.ac.length ≤ 140737488355328) (hnw : (Lit.int .i64 n).wf = true) :
    Calls Try.prog 3 #[va, .int .i64 n] w fun e w' => e = .returned (.bool true) ∧ Below w.heap.size w w' := by
  obtain ⟨an, cn, aa, ca, ea, hsn, _⟩ := ha.is
  have hnb : n ≤ 9223372036854775807 := by have := hnw; simp [Lit.wf] at this; omega
  obtain ⟨P, R, E, F, hP, hR, q1, q2, q3, q4⟩ := facts A (by omega) (by omega) n hnb
  have C1 : Hid (∀ y x, AR y x A → Calls Try.prog 10 #[x] y (NQ P E y)) := q1
  have C2 : Hid (∀ y x, AR y x A → Calls Try.prog 11 #[x] y (NQ P E y)) := q2
  have C3 : Hid (∀ y x, AR y x A → Calls Try.prog 12 #[x, .int .i64 n] y (NQ R F y)) := q3
  have C4 : Hid (∀ y x, AR y x A → Calls Try.prog 13 #[x, .int .i64 n] y (NQ R F y)) := q4
  have HLA : Hid (∀ y, Below w.heap.size w y → Calls Try.prog 9 #[va] y (LQ A y)) := fun y hy => lentAuto_any va A y (ha.stay hy) hna (by omega) hma2
  have HAA : Hid (∀ y, Below w.heap.size w y → AR y va A) := fun y hy => ha.stay hy
  have HSN : Hid (∀ y, Below w.heap.size w y → SR y an (zC A.nx)) := fun y hy => hsn.stay hy
  have HM0 : Hid (A.nx.length ≤ 17592186044000) := hma
  have HPR : Hid (P.length ≤ 4096 ∧ R.length ≤ 4096) := ⟨hP, hR⟩
  clear q1 q2 q3 q4 hna hma hma2 hnw ha hsn hP hR
  subst ea
  obtain ⟨V, hV⟩ : ∃ V, V = w.alloc (.cells #[.int .i64 A.k, .slice an A.nx.length cn, .slice aa A.ac.length ca] 25) := ⟨_, rfl⟩
  have HVE : Hid (V = w.alloc (.cells #[.int .i64 A.k, .slice an A.nx.length cn, .slice aa A.ac.length ca] 25)) := hV
  have HBV : Hid (Below w.heap.size w V) := by show Below _ _ _; rw [hV]; exact below_new _ _
  have HRV : Hid (RowAt V w.heap.size #[.int .i64 A.k, .slice an A.nx.length cn, .slice aa A.ac.length ca]) := by show RowAt _ _ _; rw [hV]; exact RowAt.last _ _ _
  clear hV
  go_enter Try.func3, Try.ntmps3
  go_wp2_with fail
  rw [← HVE.out]
  refine (HLA.out _ HBV.out).mono ?_
  rintro e w1 ⟨g, gc, xa, xc, rfl, hi1, ho1, hb1⟩
  have HI1 : Hid (w1.ownsRow V.heap.size 3 1 (.slice (some ⟨g, 0, none⟩) (A.nx.length + 2) gc) (A.nx.length + 2) (zC (A.nx ++ [-77, -78]))) := hi1
  have HO1 : Hid (w1.ownsRow V.heap.size 4 1 (.slice xa A.ac.length xc) A.ac.length (bC A.ac)) := ho1
  have HB1 : Hid (Below w.heap.size w w1) := go_on HBV.out hb1
  obtain ⟨U, hU⟩ : ∃ U, U = w1.alloc (.cells #[.int .i64 A.k, .slice (some ⟨g, 0, none⟩) A.nx.length gc, .slice xa A.ac.length xc] 25) := ⟨_, rfl⟩
  have HUE : Hid (U = w1.alloc (.cells #[.int .i64 A.k, .slice (some ⟨g, 0, none⟩) A.nx.length gc, .slice xa A.ac.length xc] 25)) := hU
  have E1 : Below w1.heap.size w1 U := by rw [hU]; exact below_new _ _
  have HB1U : Hid (Below w1.heap.size w1 U) := E1
  have HBU : Hid (Below w.heap.size w U) := go_on HB1.out E1
  have HRX : Hid (RowAt U w1.heap.size #[.int .i64 A.k, .slice (some ⟨g, 0, none⟩) A.nx.length gc, .slice xa A.ac.length xc]) := by show RowAt _ _ _; rw [hU]; exact RowAt.last _ _ _
  have HRA : Hid (RowAt U w.heap.size #[.int .i64 A.k, .slice an A.nx.length cn, .slice aa A.ac.length ca]) := (HRV.out.stay hb1).stay E1
  have HXA : Hid (∀ y, Below U.heap.size U y → AR y (.agg #[.int .i64 A.k, .slice (some ⟨g, 0, none⟩) A.nx.length gc, .slice xa A.ac.length xc]) A) := fun y hy => ⟨_, _, _, _, rfl, ((lent_sr HI1.out).stay E1).stay hy, ((own_sr HO1.out).stay E1).stay hy⟩
  have HST : Hid (∀ y, Below U.heap.size U y → Calls Try.prog 16 #[.slice (some ⟨g, 0, none⟩) A.nx.length gc, .slice an A.nx.length cn] y fun e w' => e = .returned (.bool true) ∧ Below y.heap.size y w') := fun y hy => stay_any an cn A.nx y (HSN.out y (go_on HBU.out hy)) _ g gc (by have := HM0.out; omega) (own_below (own_below HI1.out E1) hy)
  have cu : ∀ o, (w1.alloc (.cells #[.int .i64 A.k, .slice (some ⟨g, 0, none⟩) A.nx.length gc, .slice xa A.ac.length xc] 25)).cell? ⟨w1.heap.size, o, none⟩ = (#[.int .i64 A.k, .slice (some ⟨g, 0, none⟩) A.nx.length gc, .slice xa A.ac.length xc] : Array Value)[o]? := by have := HRX.out.cell; rw [hU] at this; exact this
  clear hi1 ho1 hb1 E1 hU HLA
  go_wp2_with fail
  rw [← HUE.out]
  clear cu
  refine (C1.out _ _ (HXA.out _ (Below.refl _ _))).mono ?_
  rintro e u1 ⟨v1, rfl, ho1, hb1⟩
  obtain ⟨a1, c1, rfl⟩ := own_shape ho1
  have HG1 : Hid (Below U.heap.size U u1) := hb1
  have HU1 : Hid (Below U.heap.size U u1) := hb1
  have HOp : Hid (u1.ownsRow U.heap.size 3 1 (.slice a1 P.length c1) P.length (nC P)) := ho1
  clear ho1 hb1
  have cx1 := (HRX.out.stay HU1.out).cell; have ca1 := (HRA.out.stay HU1.out).cell
  go_wp2_with fail
  refine (C2.out _ _ (HAA.out _ (go_on HBU.out HU1.out))).mono ?_
  rintro e u2 ⟨v2, rfl, ho2, hb2⟩
  obtain ⟨a2, c2, rfl⟩ := own_shape ho2
  have HG2 : Hid (Below u1.heap.size u1 u2) := hb2
  have HU2 : Hid (Below U.heap.size U u2) := go_on HU1.out hb2
  have HO2 : Hid (u2.ownsRow u1.heap.size 3 1 (.slice a2 P.length c2) P.length (nC P)) := ho2
  clear ho2 hb2
  clear cx1 ca1
  have cx2 := (HRX.out.stay HU2.out).cell; have ca2 := (HRA.out.stay HU2.out).cell
  go_wp2_with fail
  refine (C3.out _ _ (HXA.out _ HU2.out)).mono ?_
  rintro e u3 ⟨v3, rfl, ho3, hb3⟩
  obtain ⟨a3, c3, rfl⟩ := own_shape ho3
  have HG3 : Hid (Below u2.heap.size u2 u3) := hb3
  have HU3 : Hid (Below U.heap.size U u3) := go_on HU2.out hb3
  have HO3 : Hid (u3.ownsRow u2.heap.size 3 1 (.slice a3 R.length c3) R.length (nC R)) := ho3
  clear ho3 hb3
  clear cx2 ca2
  have cx3 := (HRX.out.stay HU3.out).cell; have ca3 := (HRA.out.stay HU3.out).cell
  go_wp2_with fail
  refine (C4.out _ _ (HAA.out _ (go_on HBU.out HU3.out))).mono ?_
  rintro e u4 ⟨v4, rfl, ho4, hb4⟩
  obtain ⟨a4, c4, rfl⟩ := own_shape ho4
  have HG4 : Hid (Below u3.heap.size u3 u4) := hb4
  have HU4 : Hid (Below U.heap.size U u4) := go_on HU3.out hb4
  have HO4 : Hid (u4.ownsRow u3.heap.size 3 1 (.slice a4 R.length c4) R.length (nC R)) := ho4
  clear ho4 hb4
  clear cx3 ca3
  have ZN : ∀ l : List Nat, nC l = zC (l.map (fun (x : Nat) => (x : Int))) := nC_zC
  have HS1 : Hid (∀ y, Below u4.heap.size u4 y → Calls Try.prog 14 #[.slice a1 P.length c1, .slice a2 P.length c2] y fun e w' => e = .returned (.bool true) ∧ Below y.heap.size y w') := fun y hy => by
    have b1 := go_on (go_on (go_on HG2.out HG3.out) HG4.out) hy
    have b2 := go_on (go_on HG3.out HG4.out) hy
    have q := same_any a1 a2 c1 c2 (P.map (fun (x : Nat) => (x : Int))) y (by rw [← ZN]; exact (own_sr HOp.out).stay b1) (by rw [← ZN]; exact (own_sr HO2.out).stay b2) (by have := HPR.out; rw [List.length_map]; omega)
    rwa [List.length_map] at q
  have HS2 : Hid (∀ y, Below u4.heap.size u4 y → Calls Try.prog 14 #[.slice a3 R.length c3, .slice a4 R.length c4] y fun e w' => e = .returned (.bool true) ∧ Below y.heap.size y w') := fun y hy => by
    have q := same_any a3 a4 c3 c4 (R.map (fun (x : Nat) => (x : Int))) y (by rw [← ZN]; exact (own_sr HO3.out).stay (go_on HG4.out hy)) (by rw [← ZN]; exact (own_sr HO4.out).stay hy) (by have := HPR.out; rw [List.length_map]; omega)
    rwa [List.length_map] at q
  have HAP : Hid (∀ y, Below u4.heap.size u4 y → Calls Try.prog 17 #[.slice (some ⟨y.heap.size, 0, none⟩) 3 3] (y.alloc (.cells #[.slice a1 P.length c1, .slice a3 R.length c3, .slice (some ⟨g, 0, none⟩) A.nx.length gc] 22)) fun e w' => e = .returned (.bool true) ∧ Below w.heap.size (y.alloc (.cells #[.slice a1 P.length c1, .slice a3 R.length c3, .slice (some ⟨g, 0, none⟩) A.nx.length gc] 22)) w') := fun y hy => by
    have b1 := go_on (go_on (go_on HG2.out HG3.out) HG4.out) hy
    have b3 := go_on HG4.out hy
    have bx := go_on (go_on HB1U.out HU4.out) hy
    have z1 := HBV.out.size
    have z2 := HB1.out.size
    have z3 := HB1U.out.size
    have z4 := HG2.out.size
    have z5 := HG3.out.size
    have z6 := HG4.out.size
    have z7 := HU1.out.size
    have z8 := hy.size
    have xr : w1.ownsRow w.heap.size 3 1 (.slice (some ⟨g, 0, none⟩) A.nx.length gc) A.nx.length (zC A.nx) := by
      have h1 := own_cut (n := A.nx.length) (k := 2) HI1.out
      have e : (zC (A.nx ++ [-77, -78])).take A.nx.length = zC A.nx := by simp [zC]
      rw [e] at h1
      exact own_mono h1 z1
    refine apart_any w.heap.size y.heap.size (pk3 a1 a3 (some ⟨g, 0, none⟩)) (pk3 P.length R.length A.nx.length) (pk3 c1 c3 gc) (pk3 (nC P) (nC R) (zC A.nx)) _ (heap_alloc_last y _) (three ?_ ?_ ?_) (three ?_ ?_ ?_) (three ?_ ?_ ?_) (apart3 (lo := pk3 U.heap.size u2.heap.size w.heap.size) (hi := pk3 u1.heap.size u3.heap.size w1.heap.size) (three ?_ ?_ ?_) ?_) (by simp; omega)
    · exact own_mono ((own_below HOp.out b1).alloc _) (by omega)
    · exact own_mono ((own_below HO3.out b3).alloc _) (by omega)
    · exact (own_below xr bx).alloc _
    · have := HPR.out; show P.length ≤ _; omega
    · have := HPR.out; show R.length ≤ _; omega
    · exact HM0.out
    · show (nC P).length = P.length; simp [nC]
    · show (nC R).length = R.length; simp [nC]
    · show (zC A.nx).length = A.nx.length; simp [zC]
    · exact fun b hb => HOp.out.lt b hb
    · exact fun b hb => HO3.out.lt b hb
    · exact fun b hb => xr.lt b hb
    · intro j j' hj hj' hne
      have k1 : j = 0 ∨ j = 1 ∨ j = 2 := by omega
      have k2 : j' = 0 ∨ j' = 1 ∨ j' = 2 := by omega
      rcases k1 with rfl | rfl | rfl <;> rcases k2 with rfl | rfl | rfl <;> simp only [pk3] <;> omega
  clear ZN
  go_wp2_with (first
    | (go_at_call 15; refine (num10_any _ _).mono ?_; rintro e yn ⟨rfl, hyn⟩; subst yn)
    | (go_at_call 14; refine (HS1.out _ (Below.refl _ _)).mono ?_; rintro e y1 ⟨rfl, hy1⟩; have HY1 : Hid (Below u4.heap.size u4 y1) := hy1; clear hy1 HS1)
    | (go_at_call 14; refine (HS2.out _ HY1.out).mono ?_; rintro e y2 ⟨rfl, hy2⟩; have HY2 : Hid (Below u4.heap.size u4 y2) := go_on HY1.out hy2; have qx := (HRX.out.stay (go_on HU4.out HY2.out)).cell; have qa := (HRA.out.stay (go_on HU4.out HY2.out)).cell; clear hy2 HS2 HY1)
    | (go_at_call 16; refine (HST.out _ (go_on HU4.out HY2.out)).mono ?_; rintro e y3 ⟨rfl, hy3⟩; have HY3 : Hid (Below u4.heap.size u4 y3) := go_on HY2.out hy3; have qy := (HRX.out.stay (go_on HU4.out HY3.out)).cell; clear hy3 HST HY2 qx qa)
    | (go_at_call 17; refine (HAP.out _ HY3.out).mono ?_; rintro e y5 ⟨rfl, hy5⟩; have HY5 : Hid (Below w.heap.size w y5) := (go_on (go_on (go_on HBU.out HU4.out) HY3.out) (below_new _ _)).trans hy5; clear hy5 HAP qy)
    | (go_at_call 18; refine (live10_any _).mono ?_; rintro e y6 ⟨rfl, hy6⟩; have HY6 : Hid (Below w.heap.size w y6) := go_on HY5.out hy6; clear hy6))
  go_ret
  exact ⟨rfl, HY6.out⟩

/-! ### The row's step -/
theorem own : ownKnob Try.prog.godebug = none := by kernel_rfl
set_option maxRecDepth 100000 in
theorem lifted (os : Os) (started : os.Started) (H : Type) (enc : TypeId × Value → H) :
    ReturnsInHanded {} Try.checked os 3 .any (Rows.minimClassesSpec.pre6 enc Try.prog Try.f3 Rows.minimClassesRow.domain false) (Rows.minimClassesSpec.post enc Try.prog Try.f3 false true false false) := by
  refine returnsInHanded_of_change_sized (C := Try.checked) own started (by kernel_rfl) Try.func3
    (ChangeSpec.witness6 (enc := enc) (C := Try.checked) false ⟨#[], #[.agg #[.int .i64 0, .slice none 0 0, .slice none 0 0], .int .i64 0], []⟩ 8 (by kernel_rfl) (by kernel_rfl) (by kernel_rfl) (by kernel_rfl)) ?_
  intro W base args ds gs before hval0 hW hcnd hsz0 _
  have hval : ∀ (j : Nat) t v, Try.f3.params[j]? = some t → args[j]? = some v → Value.okWide Try.prog W .any base t v := hval0
  clear hval0
  have hsz : (DataW.weightsEach Try.prog (Try.f3.params.toList ++ Rows.minimClassesSpec.plain.varTypes Try.prog) (ds ++ gs)).all (· ≤ reachBytes) = true := hsz0
  clear hsz0
  have hW' := hW
  obtain ⟨p, q, hA0, hV, rfl, hfz, hnd⟩ := hW
  have hA : DataW.TrodAll enc Try.prog W 0 (fun _ => true) true Try.f3.params.toList args.toList ds p := hA0
  rw [Try.params3] at hA hval hsz
  obtain ⟨v0, vs0, d0, ds0, p0, q0, hargs, rfl, rfl, h0, r0⟩ := trodAll_cons hA
  obtain ⟨v1, vs1, d1, ds1, p1, q1, rfl, rfl, rfl, h1, r1⟩ := trodAll_cons r0
  obtain ⟨rfl, rfl, rfl⟩ := trodAll_nil r1
  obtain rfl : args = #[v0, v1] := by cases args; simp_all
  obtain ⟨rfl, rfl⟩ := trodVars_none hV
  obtain ⟨a0, x0, n0, w0, dk0, dn0, da0, e0, y0, z0⟩ := open_auto (hval 0 25 v0 rfl rfl) h0
  have b0 := auto_bounds40 hsz (j := 0) rfl (by rw [e0]; rfl) y0 z0
  have g0 : ∀ x ∈ p0, x.block < W.heap.size := fun x hx => hW'.lt x (by simp [hx])
  obtain ⟨a1, rfl, rfl, rfl, w1⟩ := open_int Try.underlying3 (hval 1 3 v1 rfl rfl) h1
  clear hA0
  refine (walk v0 a0 a1 W x0 n0 b0.1 b0.2 w1).mono fun e W' ⟨he, bel⟩ => ?_
  subst he
  exact ⟨_, rfl, _, _, _, [], _, [], hW', trodAll_mk1 (shut_bool Try.underlying4 _), (trodAll_cons_mk (Below.trod Try.laidOut (by kernel_rfl) (of_decide_eq_true (by kernel_rfl)) h0 bel g0) (trodAll_cons_mk (shut_int Try.underlying3 w1) trodAll_mk0)), rfl, bel.frame _, fun h => by cases h⟩

theorem over : Rows.minimClassesRow.holds Try.pinned (OpenSpec.ofChange Rows.minimClassesSpec) :=
  OpenClaim.holds_of_wide 3 Try.f3 rfl rfl rfl rfl rfl rfl rfl ⟨rfl, rfl, rfl, rfl, rfl⟩ rfl rfl rfl rfl rfl (by kernel_rfl) Try.func3 (by kernel_rfl)
    (of_decide_eq_true (by kernel_rfl)) (by unfold Func.isWrapper; first | (rw [if_pos (by decide +kernel)]; kernel_rfl) | (rw [if_neg (by decide +kernel)]; exact ⟨rfl, rfl⟩))
    (fun os started H enc _ => lifted os started H enc)

end Go.Proofs.Ytchohdpjeehaoaa.minimClasses
namespace Go.Proofs.Ytchohdpjeehaoaa
/-- The given statement. -/
theorem minimClasses_holds : Rows.MinimClassesSaid := minimClasses.over
end Go.Proofs.Ytchohdpjeehaoaa
