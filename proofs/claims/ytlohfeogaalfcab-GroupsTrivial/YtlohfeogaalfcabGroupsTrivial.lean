/- Proved: eggboxlaw17.GroupsTrivial answers true at every automaton's data a (P1708): where Build makes a monoid, all groups that Orders tells of have one element just where no element's powers have a period above 1; and the law's own group of two is as the law names it. No condition. -/
import Derived.Test.YtlohfeogaalfcabW5
import Derived.Test.YtlohfeogaalfcabE26
import Derived.ProofKit
import Derived.OpenShut
import Derived.ShutString
import Derived.ChangeOld
import Derived.SizedLaws
namespace Go.Proofs.Ytlohfeogaalfcab.groupsTrivial
open Go Go.ChangeShapes Go.WideShapes Go.ChangeAt Go.RowKit Go.Lib
open Go.ChangeMaps (open_string shut_string)
set_option linter.unusedVariables false
attribute [-instance] List.instBEq instBEqProd

/-- An element's powers have period one. -/
def oneP (K : Nat) (N : List Nat) (i : Nat) : Prop := ∃ t, TR (rm K N i) 0 t 1

theorem oneP_iff {K : Nat} {N : List Nat} {i t r : Nat} (R : TR (rm K N i) 0 t r) : oneP K N i ↔ r = 1 :=
  ⟨fun ⟨t', q⟩ => (R.uniq q).2, fun e => ⟨t, by rw [← e]; exact R⟩⟩

theorem ords_at {K n : Nat} {N : List Nat} {k : Nat} (hk : k < (ordsL K n N).length) : ∃ e, e < n ∧ Go.Proofs.Ytlohfeogaalfcab.pr K N e e = e ∧ (ordsL K n N).getD k 0 = (thL n (hcE K N e)).length := by
  have hl : (ordsL K n N).length = (thL n (idE K N)).length := by unfold ordsL; rw [List.length_map]
  have hk2 : k < (thL n (idE K N)).length := by omega
  have hm := mem_thL.1 (List.getElem_mem hk2)
  refine ⟨_, hm.1, by have q := hm.2; unfold idE at q; exact of_decide_eq_true q, ?_⟩
  unfold ordsL
  rw [List.getD_eq_getElem?_getD, List.getElem?_map, List.getElem?_eq_getElem hk2]
  rfl
theorem ords_of {K n : Nat} {N : List Nat} {e : Nat} (he : e < n) (hee : Go.Proofs.Ytlohfeogaalfcab.pr K N e e = e) : ∃ k, k < (ordsL K n N).length ∧ (ordsL K n N).getD k 0 = (thL n (hcE K N e)).length := by
  have hm : e ∈ thL n (idE K N) := mem_thL.2 ⟨he, by unfold idE; exact decide_eq_true hee⟩
  obtain ⟨k, hk, q⟩ := List.getElem_of_mem hm
  refine ⟨k, by unfold ordsL; rw [List.length_map]; exact hk, ?_⟩
  unfold ordsL
  rw [List.getD_eq_getElem?_getD, List.getElem?_map, List.getElem?_eq_getElem hk, q]
  rfl

/-- All groups have one element just where all periods are one. -/
theorem groups_one {A : Aut} {M : List (List Nat)} {N : List Nat} (h : Mon A M N) : (∀ k, k < (ordsL A.k.toNat M.length N).length → (ordsL A.k.toNat M.length N).getD k 0 = 1) ↔ ∀ i, i < M.length → oneP A.k.toNat N i := by
  constructor
  · intro hall i hi
    obtain ⟨t, r, R⟩ := tr_ex (h.rm_lt hi) h.pos
    obtain ⟨n, n1, _, hn⟩ := h.om_ex hi
    have q0 := (h.idem_iff hi R n n1).1 hn
    obtain ⟨e, hee⟩ : ∃ e, pwN A.k.toNat N i n = e := ⟨_, rfl⟩
    have he : e < M.length := by rw [← hee]; exact h.pw_lt hi n
    rw [hee] at hn
    have hback : pwN A.k.toNat N i (n + 1 + n) = pwN A.k.toNat N i (n + 1) := (R.iff (n + 1) n n1).2 ⟨by omega, q0.2⟩
    have hx : Hm A.k.toNat M.length N e (pwN A.k.toNat N i (n + 1)) := by
      refine ⟨h.pw_lt hi _, ?_, ?_, n, n1, ?_, hn⟩
      · rw [← hee, ← h.pw_add hi, show n + (n + 1) = n + 1 + n by omega, hback]
      · rw [← hee, ← h.pw_add hi, hback]
      · rw [h.pw_mul hi, Nat.mul_comm, ← h.pw_mul hi, hee, h.pw_idem he hn _ (by omega)]
    obtain ⟨k, hk, e1⟩ := ords_of he hn
    rw [hall k hk] at e1
    have m1 : pwN A.k.toNat N i (n + 1) ∈ thL M.length (hcE A.k.toNat N e) := mem_thL.2 ⟨hx.lt, (hcE_iff h he hn hx.lt).2 hx⟩
    have m2 : e ∈ thL M.length (hcE A.k.toNat N e) := mem_thL.2 ⟨he, (hcE_iff h he hn he).2 (Hm.one h he hn)⟩
    obtain ⟨y, hy⟩ := List.length_eq_one_iff.1 e1.symm
    rw [hy, List.mem_singleton] at m1 m2
    have e2 : pwN A.k.toNat N i (n + 1) = pwN A.k.toNat N i n := by rw [m1, hee, m2]
    have q := ((R.iff n 1 (by omega)).1 e2).2
    exact (oneP_iff R).2 (Nat.dvd_one.1 q)
  · intro hone k hk
    obtain ⟨e, he, hee, e1⟩ := ords_at hk
    rw [e1]
    have m2 : e ∈ thL M.length (hcE A.k.toNat N e) := mem_thL.2 ⟨he, (hcE_iff h he hee he).2 (Hm.one h he hee)⟩
    have hall : ∀ x, x ∈ thL M.length (hcE A.k.toNat N e) → x = e := fun x hx => by
      have hm := (hcE_iff h he hee (mem_thL.1 hx).1).1 (mem_thL.1 hx).2
      obtain ⟨t, r, R⟩ := tr_ex (h.rm_lt hm.lt) h.pos
      have hr := (oneP_iff R).1 (hone x hm.lt)
      have q := (hm.per h hee R).2
      rw [hr, h.pw_one hm.lt] at q
      exact q
    have h1 : 1 ≤ (thL M.length (hcE A.k.toNat N e)).length := List.length_pos_of_mem m2
    by_cases h2 : 2 ≤ (thL M.length (hcE A.k.toNat N e)).length
    · have hg : ∀ j, j < (thL M.length (hcE A.k.toNat N e)).length → (thL M.length (hcE A.k.toNat N e)).getD j 0 = e := fun j hj => hall _ (by rw [List.getD_eq_getElem?_getD, List.getElem?_eq_getElem hj]; exact List.getElem_mem hj)
      have q := thL_nodup M.length (hcE A.k.toNat N e) 0 1 (by omega) (by omega) (by rw [hg 0 (by omega), hg 1 (by omega)])
      omega
    · omega

set_option maxHeartbeats 8000000 in
set_option maxRecDepth 100000 in
theorem walk (va : Value) (A : Aut) (W : World) (ha : AR W va A) (hna : NilOk va) (hma : (A.nx.length + 2) * 8 ≤ 140737488355328) (hma2 : A.ac.length ≤ 140737488355328) :
    Calls Try.prog 3 #[va] W fun e w' => e = .returned (.bool true) ∧ Below W.heap.size W w' := by
  obtain ⟨an, cn, aa, ca, ea, _, _⟩ := ha.is
  have HAA : Hid (∀ y, Below W.heap.size W y → AR y va A) := fun y hy => ha.stay hy
  subst ea
  have HBU : Hid (∀ y, Below W.heap.size W y → Calls Try.prog 4 #[.agg #[.int .i64 A.k, .slice an A.nx.length cn, .slice aa A.ac.length ca]] y (BuQ A y)) := fun y hy => built17_any _ A y (HAA.out y hy) (by omega) (by omega)
  obtain ⟨w0, hw0⟩ : ∃ w0, w0 = W.alloc (.cells #[.int .i64 A.k, .slice an A.nx.length cn, .slice aa A.ac.length ca] 25) := ⟨_, rfl⟩
  have HB0 : Hid (Below W.heap.size W w0) := by show Below _ _ _; rw [hw0]; exact below_new _ _
  have HW0 : Hid (w0 = W.alloc (.cells #[.int .i64 A.k, .slice an A.nx.length cn, .slice aa A.ac.length ca] 25)) := hw0
  clear ha hna hma hma2 hw0
  go_enter Try.func3, Try.ntmps3
  go_wp2_with fail
  rw [← HW0.out]
  refine (HBU.out _ HB0.out).mono ?_
  rintro e w1 (⟨hne, rfl, hb⟩ | ⟨ob, rb, M, N, rfl, G, h64, hE, hmo, hrf, hb⟩)
  · have HB1 : Hid (Below W.heap.size W w1) := go_on HB0.out hb
    clear hb
    go_wp2_with fail
    go_ret
    exact ⟨rfl, HB1.out⟩
  have HB1 : Hid (Below W.heap.size W w1) := go_on HB0.out hb
  have HMon : Hid (Mon A M N) := mon_of G h64 hE
  have HM1 : Hid (MO w1 ob A M N) := hmo
  have HOR : Hid _ := orders_any hmo
  have HONE : Hid _ := groups_one HMon.out
  have hpos : 0 < (ordsL A.k.toNat M.length N).length := by
    obtain ⟨k, hk, _⟩ := ords_of (K := A.k.toNat) (N := N) HMon.out.pos (HMon.out.one_pr HMon.out.pos)
    omega
  have hle : (ordsL A.k.toNat M.length N).length ≤ 512 := by unfold ordsL; rw [List.length_map]; exact Nat.le_trans (thL_len _ _) HMon.out.most
  have hmm := HMon.out.most
  unfold OrQ at HOR
  obtain ⟨O, hO⟩ : ∃ O, ordsL A.k.toNat M.length N = O := ⟨_, rfl⟩
  rw [hO] at HOR HONE hpos hle
  have HN5 : Hid (0 < O.length ∧ O.length ≤ 512 ∧ M.length ≤ 512) := ⟨hpos, hle, hmm⟩
  clear hb hmo hrf G h64 hE hO hpos hle hmm
  go_wp2_with fail
  refine Calls.mono HOR.out ?_
  rintro en w2 ⟨g, rfl, hpr, hb⟩
  have HP : Hid (PR w2 g O []) := hpr
  have HB2 : Hid (Below W.heap.size W w2) := go_on HB1.out hb
  have HM2 : Hid (MO w2 ob A M N) := HM1.out.below hb
  clear hpr hb HOR
  go_wp2_with fail
  go_loopw [9, 10] (fun va vi wr => ∃ (i : Nat) (b : Bool), va = .bool b ∧ vi = .int .i64 (i : Nat) ∧ i ≤ O.length ∧ (b = true ↔ ∀ j, j < i → O.getD j 0 = 1) ∧ w2 = wr) (fun _ vi _ => O.length - (Go.RowKit.intOf vi).toNat)
  case atStart => exact ⟨0, true, rfl, rfl, Nat.zero_le _, ⟨fun _ j hj => absurd hj (by omega), fun _ => rfl⟩, rfl⟩
  case round =>
    obtain ⟨i, b, rfl, rfl, hi, hbb, rfl⟩ := hrel
    have HBB : Hid (b = true ↔ ∀ j, j < i → O.getD j 0 = 1) := hbb
    clear hbb
    have h5 := HN5.out
    by_cases hlt : i < O.length
    · have hiI : (i : Int) < O.length := by omega
      have hid : decide ((i : Int) < O.length) = true := decide_eq_true hiI
      have hi5 : i < 512 := by omega
      have HI : Hid (i < O.length) := hlt
      have hc := PR.cell HP.out (i := i) hlt
      obtain ⟨x, hx⟩ : ∃ x, O.getD i 0 = x := ⟨_, rfl⟩
      rw [hx] at hc
      have HX : Hid (O.getD i 0 = x) := hx
      clear hx hlt hi h5
      cases b with
      | false =>
        go_wp2_with fail
        go_roundw
        case rel =>
          refine ⟨i + 1, false, rfl, by go_num, HI.out, ⟨fun q => (by cases q), fun q => ?_⟩, by trivial⟩
          exact absurd (HBB.out.2 fun j hj => q j (by omega)) (by decide)
        case measure => have := HI.out; simp [Go.RowKit.intOf]; omega
      | true =>
        by_cases hx1 : x = 1
        · have e1 : ((x : Int) == 1) = true := by rw [beq_iff_eq]; omega
          have e2 : (x : Int) = 1 := by omega
          have HX1 : Hid (x = 1) := hx1
          clear hx1
          go_wp2_with fail
          go_roundw
          case rel =>
            refine ⟨i + 1, true, rfl, by go_num, HI.out, ⟨fun _ j hj => ?_, fun _ => rfl⟩, by trivial⟩
            by_cases q : j = i
            · rw [q, HX.out, HX1.out]
            · exact HBB.out.1 (by first | rfl | trivial) j (by omega)
          case measure => have := HI.out; simp [Go.RowKit.intOf]; omega
        · have e1 : ((x : Int) == 1) = false := by rw [beq_eq_false_iff_ne]; omega
          have e2 : ¬ (x : Int) = 1 := by omega
          have HX1 : Hid (x ≠ 1) := hx1
          clear hx1
          go_wp2_with fail
          go_roundw
          case rel =>
            refine ⟨i + 1, false, rfl, by go_num, HI.out, ⟨fun q => (by cases q), fun q => ?_⟩, by trivial⟩
            exact absurd (by rw [← HX.out]; exact q i (by omega)) HX1.out
          case measure => have := HI.out; simp [Go.RowKit.intOf]; omega
    · have hiI : ¬ (i : Int) < O.length := by omega
      have hid : decide ((i : Int) < O.length) = false := decide_eq_false hiI
      have HB1' : Hid (b = true ↔ ∀ k, k < O.length → O.getD k 0 = 1) := ⟨fun q k hk => HBB.out.1 q k (by omega), fun q => HBB.out.2 fun j hj => q j (by omega)⟩
      clear hlt hi h5
      go_wp2_with fail
      go_loopw [11, 12] (fun va vi wr => ∃ (i : Nat) (b : Bool), va = .bool b ∧ vi = .int .i64 (i : Nat) ∧ i ≤ M.length ∧ (b = true ↔ ∀ j, j < i → oneP A.k.toNat N j) ∧ Below w2.heap.size w2 wr) (fun _ vi _ => M.length - (Go.RowKit.intOf vi).toNat)
      case atStart => exact ⟨0, true, rfl, rfl, Nat.zero_le _, ⟨fun _ j hj => absurd hj (by omega), fun _ => rfl⟩, Below.refl _ _⟩
      case round =>
        obtain ⟨i, c, rfl, rfl, hi, hbb, hb⟩ := hrel
        have HCC : Hid (c = true ↔ ∀ j, j < i → oneP A.k.toNat N j) := hbb
        have HC : Hid (Below w2.heap.size w2 wr) := hb
        have HMR : Hid (MO wr ob A M N) := HM2.out.below hb
        clear hbb hb
        have h5 := HN5.out
        by_cases hlt : i < M.length
        · have hiI : (i : Int) < M.length := by omega
          have hid : decide ((i : Int) < M.length) = true := decide_eq_true hiI
          have hi5 : i < 512 := by omega
          have HI : Hid (i < M.length) := hlt
          have HCY : Hid _ := iCycle_any HMR.out i hlt
          clear hlt hi h5
          go_wp2_with fail
          refine (mlen_any HMR.out).mono ?_
          rintro e wx ⟨rfl, rfl⟩
          go_wp2_with fail
          refine Calls.mono HCY.out ?_
          rintro e w3 ⟨⟨t, r, rfl, hR⟩, hb⟩
          have HR : Hid (oneP A.k.toNat N i ↔ r = 1) := oneP_iff hR
          have HC3 : Hid (Below w2.heap.size w2 w3) := go_on HC.out hb
          clear hR hb HCY
          cases c with
          | false =>
            go_wp2_with ((go_at_call 8; refine (num17_any _ _).mono ?_; rintro e yn ⟨rfl, hyn⟩; subst yn))
            go_roundw
            case rel =>
              refine ⟨i + 1, false, rfl, by go_num, HI.out, ⟨fun q => (by cases q), fun q => ?_⟩, HC3.out⟩
              exact absurd (HCC.out.2 fun j hj => q j (by omega)) (by decide)
            case measure => have := HI.out; simp [Go.RowKit.intOf]; omega
          | true =>
            by_cases hx1 : r = 1
            · have e1 : ((r : Int) == 1) = true := by rw [beq_iff_eq]; omega
              have e2 : (r : Int) = 1 := by omega
              have HX1 : Hid (r = 1) := hx1
              clear hx1
              go_wp2_with ((go_at_call 8; refine (num17_any _ _).mono ?_; rintro e yn ⟨rfl, hyn⟩; subst yn))
              go_roundw
              case rel =>
                refine ⟨i + 1, true, rfl, by go_num, HI.out, ⟨fun _ j hj => ?_, fun _ => rfl⟩, HC3.out⟩
                by_cases q : j = i
                · rw [q]; exact HR.out.2 HX1.out
                · exact HCC.out.1 (by first | rfl | trivial) j (by omega)
              case measure => have := HI.out; simp [Go.RowKit.intOf]; omega
            · have e1 : ((r : Int) == 1) = false := by rw [beq_eq_false_iff_ne]; omega
              have e2 : ¬ (r : Int) = 1 := by omega
              have HX1 : Hid (r ≠ 1) := hx1
              clear hx1
              go_wp2_with ((go_at_call 8; refine (num17_any _ _).mono ?_; rintro e yn ⟨rfl, hyn⟩; subst yn))
              go_roundw
              case rel =>
                refine ⟨i + 1, false, rfl, by go_num, HI.out, ⟨fun q => (by cases q), fun q => ?_⟩, HC3.out⟩
                exact absurd (HR.out.1 (q i (by omega))) HX1.out
              case measure => have := HI.out; simp [Go.RowKit.intOf]; omega
        · have hiI : ¬ (i : Int) < M.length := by omega
          have hid : decide ((i : Int) < M.length) = false := decide_eq_false hiI
          have hbc : b = c := by
            have e1 : (b = true ↔ c = true) := by
              rw [HB1'.out, HONE.out]
              exact ⟨fun q => HCC.out.2 fun j hj => q j (by omega), fun q j hj => HCC.out.1 q j (by omega)⟩
            cases b <;> cases c <;> simp_all
          subst hbc
          have hp0 : (0 : Int) < O.length := by omega
          have hbb : (b == b) = true := by cases b <;> rfl
          clear hlt hi
          go_wp2_with (first | (go_at_call 8; refine (num17_any _ _).mono ?_; rintro e yn ⟨rfl, hyn⟩; subst yn) | (go_at_call 6; refine (mlen_any HMR.out).mono ?_; rintro e yn ⟨rfl, hyn⟩; subst yn))
          go_ret
          exact ⟨rfl, go_on HB2.out HC.out⟩


/-! ### The row's step -/
theorem own : ownKnob Try.prog.godebug = none := by kernel_rfl
set_option maxRecDepth 100000 in
theorem lifted (os : Os) (started : os.Started) (H : Type) (enc : TypeId × Value → H) :
    ReturnsInHanded {} Try.checked os 3 .any (Rows.groupsTrivialSpec.pre6 enc Try.prog Try.f3 Rows.groupsTrivialRow.domain false) (Rows.groupsTrivialSpec.post enc Try.prog Try.f3 false true false false) := by
  refine returnsInHanded_of_change_sized (C := Try.checked) own started (by kernel_rfl) Try.func3
    (ChangeSpec.witness6 (enc := enc) (C := Try.checked) false ⟨#[], #[.agg #[.int .i64 0, .slice none 0 0, .slice none 0 0]], []⟩ 8 (by kernel_rfl) (by kernel_rfl) (by kernel_rfl) (by kernel_rfl)) ?_
  intro W base args ds gs before hval0 hW hcnd hsz0 _
  have hval : ∀ (j : Nat) t v, Try.f3.params[j]? = some t → args[j]? = some v → Value.okWide Try.prog W .any base t v := hval0
  clear hval0
  have hsz : (DataW.weightsEach Try.prog (Try.f3.params.toList ++ Rows.groupsTrivialSpec.plain.varTypes Try.prog) (ds ++ gs)).all (· ≤ reachBytes) = true := hsz0
  clear hsz0
  have hW' := hW
  obtain ⟨p, q, hA0, hV, rfl, hfz, hnd⟩ := hW
  have hA : DataW.TrodAll enc Try.prog W 0 (fun _ => true) true Try.f3.params.toList args.toList ds p := hA0
  rw [Try.params3] at hA hval hsz
  obtain ⟨v0, vs0, d0, ds0, p0, q0, hargs, rfl, rfl, h0, r0⟩ := trodAll_cons hA
  obtain ⟨rfl, rfl, rfl⟩ := trodAll_nil r0
  obtain rfl : args = #[v0] := by cases args; simp_all
  obtain ⟨rfl, rfl⟩ := trodVars_none hV
  obtain ⟨a0, x0, n0, w0, dk0, dn0, da0, e0, y0, z0⟩ := open_auto (hval 0 25 v0 rfl rfl) h0
  have b0 := auto_bounds hsz (j := 0) rfl (by rw [e0]; rfl) y0 z0
  have g0 : ∀ x ∈ p0, x.block < W.heap.size := fun x hx => hW'.lt x (by simp [hx])
  clear hA0
  refine (walk v0 a0 W x0 n0 b0.1 b0.2).mono fun e W' ⟨he, bel⟩ => ?_
  subst he
  exact ⟨_, rfl, _, _, _, [], _, [], hW', trodAll_mk1 (shut_bool Try.underlying4 _), (trodAll_cons_mk (Below.trod Try.laidOut (by kernel_rfl) (of_decide_eq_true (by kernel_rfl)) h0 bel g0) trodAll_mk0), rfl, bel.frame _, fun h => by cases h⟩

theorem over : Rows.groupsTrivialRow.holds Try.pinned (OpenSpec.ofChange Rows.groupsTrivialSpec) :=
  OpenClaim.holds_of_wide 3 Try.f3 rfl rfl rfl rfl rfl rfl rfl ⟨rfl, rfl, rfl, rfl, rfl⟩ rfl rfl rfl rfl rfl (by kernel_rfl) Try.func3 (by kernel_rfl)
    (of_decide_eq_true (by kernel_rfl)) (by unfold Func.isWrapper; first | (rw [if_pos (by decide +kernel)]; kernel_rfl) | (rw [if_neg (by decide +kernel)]; exact ⟨rfl, rfl⟩))
    (fun os started H enc _ => lifted os started H enc)

end Go.Proofs.Ytlohfeogaalfcab.groupsTrivial
namespace Go.Proofs.Ytlohfeogaalfcab
/-- The given statement. -/
theorem groupsTrivial_holds : Rows.GroupsTrivialSaid := groupsTrivial.over
end Go.Proofs.Ytlohfeogaalfcab
