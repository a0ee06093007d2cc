/- Proved: eggboxlaw17.GroupsGroup answers true at every automaton's data a and all numbers n, i, j (P1705): where Build makes a monoid, the group that Of tells at any idempotent has products of members as members, the idempotent is its identity, and each member has one inverse, that which Inverse tells; and the law's own group of two is as the law names it. No condition. -/
import Derived.Test.YtlohfeogaalfcaaW5
import Derived.Test.YtlohfeogaalfcaaE26
import Derived.ProofKit
import Derived.OpenShut
import Derived.ShutString
import Derived.ChangeOld
import Derived.SizedLaws
namespace Go.Proofs.Ytlohfeogaalfcaa.groupsGroup
open Go Go.ChangeShapes Go.WideShapes Go.ChangeAt Go.RowKit Go.Lib
open Go.ChangeMaps (open_string shut_string)
set_option linter.unusedVariables false
attribute [-instance] List.instBEq instBEqProd

theorem gv_mem {A : Aut} {M : List (List Nat)} {N : List Nat} (h : Mon A M N) {e : Nat} (he : e < M.length) (hee : Go.Proofs.Ytlohfeogaalfcaa.pr A.k.toNat N e e = e) {P I l : List Nat} (hl : thL M.length (hcE A.k.toNat N e) = l) (hpi : ∀ j, j < l.length → PIk A.k.toNat N l P I j) {y : Nat} (hy : Hm A.k.toNat M.length N e y) :
    ∃ u, gvV l I (y : Nat) = .tuple #[.int .i64 (u : Nat), .int .i64 0] ∧ Hm A.k.toNat M.length N e u ∧ Go.Proofs.Ytlohfeogaalfcaa.pr A.k.toNat N y u = e ∧ Go.Proofs.Ytlohfeogaalfcaa.pr A.k.toNat N u y = e := by
  have hnd : ∀ i j, i < l.length → j < l.length → l.getD i 0 = l.getD j 0 → i = j := by rw [← hl]; exact thL_nodup _ _
  have hin : ∀ z, Hm A.k.toNat M.length N e z → ∃ j, j < l.length ∧ l.getD j 0 = z := fun z hz => by
    have q : z ∈ l := by rw [← hl]; exact mem_thL.2 ⟨hz.lt, (hcE_iff h he hee hz.lt).2 hz⟩
    obtain ⟨j, hj, e⟩ := List.getElem_of_mem q
    exact ⟨j, hj, by rw [List.getD_eq_getElem?_getD, List.getElem?_eq_getElem hj]; exact e⟩
  obtain ⟨j, hj, ej⟩ := hin y hy
  have hm : y ∈ l := by rw [← ej, List.getD_eq_getElem?_getD, List.getElem?_eq_getElem hj]; exact List.getElem_mem hj
  obtain ⟨⟨tt, R⟩, hI⟩ := hpi j hj
  rw [ej] at R hI
  obtain ⟨i1, i2, i3⟩ := hy.inv h he hee R
  obtain ⟨k, hk, ek⟩ := hin _ i1
  refine ⟨_, ?_, i1, i2, i3⟩
  have e1 : plN l y = j := by rw [← ej]; exact plN_at hnd hj
  have e2 : plN l (pwN A.k.toNat N y (2 * P.getD j 0 - 1)) = k := by rw [← ek]; exact plN_at hnd hk
  unfold gvV
  rw [if_pos (List.mem_map.2 ⟨y, hm, rfl⟩), Int.toNat_natCast, e1, hI, e2, ek]

theorem inL_mem {l : List Nat} {y : Nat} (h : y ∈ l) : inL l (y : Nat) = true := by
  unfold inL
  exact decide_eq_true (List.mem_map.2 ⟨y, h, rfl⟩)

set_option maxHeartbeats 8000000 in
set_option maxRecDepth 100000 in
theorem walk (va : Value) (A : Aut) (a1 a2 a3 : Int) (W : World) (ha : AR W va A) (hna : NilOk va) (hma : (A.nx.length + 2) * 8 ≤ 140737488355328) (hma2 : A.ac.length ≤ 140737488355328) (h1 : I64 a1) (h2 : I64 a2) (h3 : I64 a3) :
    Calls Try.prog 3 #[va, .int .i64 a1, .int .i64 a2, .int .i64 a3] W fun e w' => e = .returned (.bool true) ∧ Below W.heap.size W w' := by
  obtain ⟨an, cn, aa, ca, ea, _, _⟩ := ha.is
  have HAA : Hid (∀ y, Below W.heap.size W y → AR y va A) := fun y hy => ha.stay hy
  subst ea
  have HBU : Hid (∀ y, Below W.heap.size W y → Calls Try.prog 5 #[.agg #[.int .i64 A.k, .slice an A.nx.length cn, .slice aa A.ac.length ca]] y (BuQ A y)) := fun y hy => built17_any _ A y (HAA.out y hy) (by omega) (by omega)
  obtain ⟨w0, hw0⟩ : ∃ w0, w0 = W.alloc (.cells #[.int .i64 A.k, .slice an A.nx.length cn, .slice aa A.ac.length ca] 25) := ⟨_, rfl⟩
  have HB0 : Hid (Below W.heap.size W w0) := by show Below _ _ _; rw [hw0]; exact below_new _ _
  have HW0 : Hid (w0 = W.alloc (.cells #[.int .i64 A.k, .slice an A.nx.length cn, .slice aa A.ac.length ca] 25)) := hw0
  clear ha hna hma hma2 hw0
  go_enter Try.func3, Try.ntmps3
  go_wp2_with fail
  rw [← HW0.out]
  refine (HBU.out _ HB0.out).mono ?_
  rintro e w1 (⟨hne, rfl, hb⟩ | ⟨ob, rb, M, N, rfl, G, h64, hE, hmo, hrf, hb⟩)
  · have HB1 : Hid (Below W.heap.size W w1) := go_on HB0.out hb
    clear hb
    go_wp2_with fail
    go_ret
    exact ⟨rfl, HB1.out⟩
  have HB1 : Hid (Below W.heap.size W w1) := go_on HB0.out hb
  have HM1 : Hid (MO w1 ob A M N) := hmo
  have HMon : Hid (Mon A M N) := mon_of G h64 hE
  have HCH : Hid _ := chosen_any hmo a1
  clear hb hmo hrf G h64 hE
  go_wp2_with fail
  refine Calls.mono HCH.out ?_
  rintro en w2 ⟨x, gb, gm, cm, mb, pb, ib, D, P, I, tv, hx, hxx, rfl, hgb, hgx, hb⟩
  have HB2 : Hid (Below W.heap.size W w2) := go_on HB1.out hb
  have HM2 : Hid (MO w2 ob A M N) := HM1.out.below hb
  obtain ⟨l, hl⟩ : ∃ l, thL M.length (hcE A.k.toNat N x) = l := ⟨_, rfl⟩
  rw [hl] at hgx
  have HGX : Hid (GX w2 gb A.k.toNat N x l gm cm mb pb ib D P I tv) := hgx
  have HX : Hid (Hm A.k.toNat M.length N x x) := Hm.one HMon.out hx hxx
  have HND : Hid (∀ i j, i < l.length → j < l.length → l.getD i 0 = l.getD j 0 → i = j) := by show ∀ i j, _; rw [← hl]; exact thL_nodup _ _
  have HIN : Hid (∀ z, Hm A.k.toNat M.length N x z → z ∈ l) := fun z hz => by rw [← hl]; exact mem_thL.2 ⟨hz.lt, (hcE_iff HMon.out hx hxx hz.lt).2 hz⟩
  have HLM : Hid (∀ j, j < l.length → Hm A.k.toNat M.length N x (l.getD j 0)) := fun j hj => by
    have q : l.getD j 0 ∈ thL M.length (hcE A.k.toNat N x) := by rw [hl, List.getD_eq_getElem?_getD, List.getElem?_eq_getElem hj]; exact List.getElem_mem hj
    exact (hcE_iff HMon.out hx hxx (mem_thL.1 q).1).1 (mem_thL.1 q).2
  have HGV : Hid (∀ y, Hm A.k.toNat M.length N x y → ∃ u, gvV l I (y : Nat) = .tuple #[.int .i64 (u : Nat), .int .i64 0] ∧ Hm A.k.toNat M.length N x u ∧ Go.Proofs.Ytlohfeogaalfcaa.pr A.k.toNat N y u = x ∧ Go.Proofs.Ytlohfeogaalfcaa.pr A.k.toNat N u y = x) := fun y hy => gv_mem HMon.out hx hxx hl hgx.pi hy
  have h5 : l.length ≤ 512 := by rw [← hl]; exact Nat.le_trans (thL_len _ _) HMon.out.most
  have hpos : 0 < l.length := List.length_pos_of_mem (HIN.out x HX.out)
  have HPOS : Hid (0 < l.length) := hpos
  have HMB : Hid _ := gmembers_any hgx hpos h5
  have H5 : Hid (∀ z, z < M.length → z < 1000000) := fun z hz => by have := HMon.out.most; omega
  have HXX : Hid (x < M.length ∧ Go.Proofs.Ytlohfeogaalfcaa.pr A.k.toNat N x x = x) := ⟨hx, hxx⟩
  clear hb hgx hl hx hxx HCH HM1 HB1 hgb
  go_wp2_with fail
  refine Calls.mono HMB.out ?_
  rintro en w3 ⟨v, rfl, ho, hb⟩
  obtain ⟨la, lc, rfl⟩ := own_shape ho
  have HL : Hid (SR w3 la (nC l)) := own_sr ho
  have HB3 : Hid (Below W.heap.size W w3) := go_on HB2.out hb
  have HM3 : Hid (MO w3 ob A M N) := HM2.out.below hb
  have HG3 : Hid (GX w3 gb A.k.toNat N x l gm cm mb pb ib D P I tv) := HGX.out.below hb
  clear hb ho HMB
  have HOD : Hid (∀ y, Below w3.heap.size w3 y → Calls Try.prog 8 #[.pointer (some ⟨gb, 0, none⟩)] y fun e w' => e = .returned (.int .i64 (l.length : Nat)) ∧ y = w') := fun y hy => gorder_any (HG3.out.below hy)
  have HHS : Hid (∀ y z, Below w3.heap.size w3 y → Hm A.k.toNat M.length N x z → Calls Try.prog 9 #[.pointer (some ⟨gb, 0, none⟩), .int .i64 (z : Nat)] y fun e w' => e = .returned (.bool true) ∧ y = w') := fun y z hy hz => by
    have q := ghas_any (HG3.out.below hy) HND.out (z : Nat) (wfI (H5.out z hz.lt))
    rwa [inL_mem (HIN.out z hz)] at q
  obtain ⟨m1, k1, e1, e2, e3, e4, e5⟩ := mod_in a2 l.length HPOS.out h5
  obtain ⟨m2, k2, f1, f2, f3, f4, f5⟩ := mod_in a3 l.length HPOS.out h5
  have hw1 : IntKind.i64.wrap m1 = m1 := by rw [IntKind.wrap_i64]; omega
  have hw2 : IntKind.i64.wrap (m1 + (l.length : Int)) = m1 + (l.length : Int) := by rw [IntKind.wrap_i64]; omega
  have hw3 : IntKind.i64.wrap (k1 : Int) = (k1 : Int) := by rw [IntKind.wrap_i64]; omega
  have hx1 : IntKind.i64.wrap m2 = m2 := by rw [IntKind.wrap_i64]; omega
  have hx2 : IntKind.i64.wrap (m2 + (l.length : Int)) = m2 + (l.length : Int) := by rw [IntKind.wrap_i64]; omega
  have hx3 : IntKind.i64.wrap (k2 : Int) = (k2 : Int) := by rw [IntKind.wrap_i64]; omega
  have hkI : (k1 : Int) < l.length := by omega
  have hkJ : (k2 : Int) < l.length := by omega
  obtain ⟨g, o, rfl, _, hc1⟩ := HL.out.nat e5
  obtain ⟨g', o', eg, _, hc2⟩ := HL.out.nat f5
  simp only [Option.some.injEq, Addr.mk.injEq, and_true] at eg
  obtain ⟨rfl, rfl⟩ := eg
  have HY1 : Hid (Hm A.k.toNat M.length N x (l.getD k1 0)) := HLM.out k1 e5
  have HY2 : Hid (Hm A.k.toNat M.length N x (l.getD k2 0)) := HLM.out k2 f5
  obtain ⟨y1, hy1⟩ : ∃ y, l.getD k1 0 = y := ⟨_, rfl⟩
  obtain ⟨y2, hy2⟩ : ∃ y, l.getD k2 0 = y := ⟨_, rfl⟩
  rw [hy1] at hc1 HY1
  rw [hy2] at hc2 HY2
  clear e2 e3 e5 f2 f3 f5 hy1 hy2 h1 h2 h3
  have hne0 : ((l.length : Int) == 0) = false := beq_eq_false_iff_ne.2 (by omega)
  have hne1 : ¬ (l.length : Int) = 0 := by omega
  have hne2 : ¬ l.length = 0 := by omega
  have hnd : ((l.length : Int) != (l.length : Int)) = false := by simp
  go_wp2_with (first | (go_at_call 8; refine Calls.mono (HOD.out _ (Below.refl _ _)) ?_; rintro en yn ⟨rfl, hyn⟩; subst yn) | (go_at_call 9; refine Calls.mono (HHS.out _ x (Below.refl _ _) HX.out) ?_; rintro en yn ⟨rfl, hyn⟩; subst yn))
  clear e1 e4 f1 f4 hw1 hw2 hw3 hx1 hx2 hx3 hkI hkJ hc1 hc2 hne0 hne1 hne2 hnd
  -- products of members
  obtain ⟨p, hp⟩ : ∃ p, Go.Proofs.Ytlohfeogaalfcaa.pr A.k.toNat N y1 y2 = p := ⟨_, rfl⟩
  have HP : Hid (Hm A.k.toNat M.length N x p) := by rw [← hp]; exact HY1.out.mul HMon.out HXX.out.1 HXX.out.2 HY2.out
  obtain ⟨u, hgv, hu, hu1, hu2⟩ := HGV.out y1 HY1.out
  have HU : Hid (Hm A.k.toNat M.length N x u) := hu
  have HIU : Hid (∀ z, Hm A.k.toNat M.length N x z → (Go.Proofs.Ytlohfeogaalfcaa.pr A.k.toNat N y1 z = x ↔ z = u)) := fun z hz => ⟨fun q => HY1.out.inv_uniq HMon.out HXX.out.1 HXX.out.2 hz hu q hu1, fun q => by rw [q]; exact hu1⟩
  have HPR : Hid (∀ y a b c, Below w3.heap.size w3 y → Hm A.k.toNat M.length N x a → Hm A.k.toNat M.length N x b → Go.Proofs.Ytlohfeogaalfcaa.pr A.k.toNat N a b = c → Calls Try.prog 10 #[.pointer (some ⟨ob, 0, none⟩), .int .i64 (a : Nat), .int .i64 (b : Nat)] y fun e w' => e = .returned (.tuple #[.int .i64 (c : Nat), .int .i64 0]) ∧ Below y.heap.size y w') := fun y a b c hy ha hb hc => by
    have q := mproduct_ok (HM3.out.below hy) a b ha.lt hb.lt
    rwa [hc] at q
  have HIV : Hid (∀ y, Below w3.heap.size w3 y → Calls Try.prog 11 #[.pointer (some ⟨gb, 0, none⟩), .int .i64 (y1 : Nat)] y fun e w' => e = .returned (.tuple #[.int .i64 (u : Nat), .int .i64 0]) ∧ Below y.heap.size y w') := fun y hy => by
    have q := ginverse_any (HG3.out.below hy) HND.out HPOS.out (y1 : Nat) (wfI (H5.out y1 HY1.out.lt))
    rwa [hgv] at q
  have HC1 : Hid (Below w3.heap.size w3 w3) := Below.refl _ _
  have HF : Hid (Go.Proofs.Ytlohfeogaalfcaa.pr A.k.toNat N y1 y2 = p ∧ Go.Proofs.Ytlohfeogaalfcaa.pr A.k.toNat N y1 u = x ∧ Go.Proofs.Ytlohfeogaalfcaa.pr A.k.toNat N u y1 = x) := ⟨hp, hu1, hu2⟩
  clear hp hgv hu hu1 hu2
  refine Calls.mono (HPR.out _ y1 y2 p HC1.out HY1.out HY2.out HF.out.1) ?_
  rintro en w4 ⟨rfl, hb⟩
  have HC2 : Hid (Below w3.heap.size w3 w4) := go_on HC1.out hb
  clear hb
  go_wp2_with fail
  refine Calls.mono (HPR.out _ y1 x y1 HC2.out HY1.out HX.out HY1.out.er) ?_
  rintro en w5 ⟨rfl, hb⟩
  have HC3 : Hid (Below w3.heap.size w3 w5) := go_on HC2.out hb
  clear hb
  go_wp2_with fail
  refine Calls.mono (HPR.out _ x y1 y1 HC3.out HX.out HY1.out HY1.out.el) ?_
  rintro en w6 ⟨rfl, hb⟩
  have HC4 : Hid (Below w3.heap.size w3 w6) := go_on HC3.out hb
  clear hb
  go_wp2_with fail
  refine Calls.mono (HIV.out _ HC4.out) ?_
  rintro en w7 ⟨rfl, hb⟩
  have HC5 : Hid (Below w3.heap.size w3 w7) := go_on HC4.out hb
  clear hb
  go_wp2_with fail
  refine Calls.mono (HPR.out _ y1 u x HC5.out HY1.out HU.out HF.out.2.1) ?_
  rintro en w8 ⟨rfl, hb⟩
  have HC6 : Hid (Below w3.heap.size w3 w8) := go_on HC5.out hb
  clear hb
  go_wp2_with fail
  refine Calls.mono (HPR.out _ u y1 x HC6.out HU.out HY1.out HF.out.2.2) ?_
  rintro en w9 ⟨rfl, hb⟩
  have HC7 : Hid (Below w3.heap.size w3 w9) := go_on HC6.out hb
  clear hb
  have hnd1 : ((y1 : Int) != (y1 : Int)) = false := by simp
  have hnd2 : ((x : Int) != (x : Int)) = false := by simp
  go_wp2_with (first | (go_at_call 12; refine (num17_any _ _).mono ?_; rintro e yn ⟨rfl, hyn⟩; subst yn) | (go_at_call_of 9 ([Value.int .i64 (p : Nat)] : List Value); refine Calls.mono (HHS.out _ p HC7.out HP.out) ?_; rintro en yn ⟨rfl, hyn⟩; subst yn) | (go_at_call_of 9 ([Value.int .i64 (u : Nat)] : List Value); refine Calls.mono (HHS.out _ u HC7.out HU.out) ?_; rintro en yn ⟨rfl, hyn⟩; subst yn))
  clear hnd1 hnd2 HM2
  obtain ⟨iu, hiu, eiu⟩ : ∃ j, j < l.length ∧ l.getD j 0 = u := by
    obtain ⟨j, hj, e⟩ := List.getElem_of_mem (HIN.out u HU.out)
    exact ⟨j, hj, by rw [List.getD_eq_getElem?_getD, List.getElem?_eq_getElem hj]; exact e⟩
  have HIDX : Hid (∀ k, k < l.length → (Go.Proofs.Ytlohfeogaalfcaa.pr A.k.toNat N y1 (l.getD k 0) = x ↔ k = iu)) := fun k hk => by
    rw [HIU.out _ (HLM.out k hk)]
    constructor
    · intro q; exact HND.out k iu hk hiu (by rw [q, eiu])
    · rintro rfl; exact eiu
  have HIL : Hid (iu < l.length) := hiu
  clear hiu eiu
  go_loopw [30, 31] (fun vf vk wr => ∃ k : Nat, vk = .int .i64 k ∧ k ≤ l.length ∧ vf = .int .i64 ((if iu < k then 1 else 0 : Nat) : Nat) ∧ Below w3.heap.size w3 wr) (fun _ vk _ => l.length - (Go.RowKit.intOf vk).toNat)
  case atStart => exact ⟨0, rfl, Nat.zero_le _, by rw [if_neg (by omega)]; rfl, HC7.out⟩
  case round =>
    obtain ⟨k, rfl, hk, rfl, hb⟩ := hrel
    have HC : Hid (Below w3.heap.size w3 wr) := hb
    clear hb
    by_cases hlt : k < l.length
    · have hkI : (k : Int) < l.length := by omega
      obtain ⟨g', o', eg, _, hc⟩ := (HL.out.stay HC.out).nat hlt
      simp only [Option.some.injEq, Addr.mk.injEq, and_true] at eg
      obtain ⟨rfl, rfl⟩ := eg
      have HZ : Hid (Hm A.k.toNat M.length N x (l.getD k 0)) := HLM.out k hlt
      have HZI : Hid (Go.Proofs.Ytlohfeogaalfcaa.pr A.k.toNat N y1 (l.getD k 0) = x ↔ k = iu) := HIDX.out k hlt
      obtain ⟨z, hz⟩ : ∃ z, l.getD k 0 = z := ⟨_, rfl⟩
      rw [hz] at hc HZ HZI
      obtain ⟨q, hq⟩ : ∃ q, Go.Proofs.Ytlohfeogaalfcaa.pr A.k.toNat N y1 z = q := ⟨_, rfl⟩
      have HQ : Hid (Go.Proofs.Ytlohfeogaalfcaa.pr A.k.toNat N y1 z = q) := hq
      rw [hq] at HZI
      have HKL : Hid (k < l.length ∧ l.length ≤ 512) := ⟨hlt, h5⟩
      obtain ⟨f, hf⟩ : ∃ f : Nat, (if iu < k then 1 else 0) = f := ⟨_, rfl⟩
      have hf1 : f ≤ 1 := by rw [← hf]; split <;> omega
      have HFE : Hid ((if iu < k then 1 else 0) = f) := hf
      rw [hf]
      clear hz hq hlt hf
      go_wp2_with fail
      refine Calls.mono (HPR.out _ y1 z q HC.out HY1.out HZ.out HQ.out) ?_
      rintro en wb ⟨rfl, hb⟩
      have HCB : Hid (Below w3.heap.size w3 wb) := go_on HC.out hb
      clear hb
      by_cases hki : k = iu
      · have hqx : q = x := HZI.out.2 hki
        have hqe : ((q : Int) == (x : Int)) = true := by rw [beq_iff_eq]; omega
        have hqn : (q : Int) = (x : Int) := by omega
        clear hqx
        go_wp2_with (first | (go_at_call 12; refine (num17_any _ _).mono ?_; rintro e yn ⟨rfl, hyn⟩; subst yn))
        go_roundw
        case rel =>
          have hfe := HFE.out
          rw [if_neg (by omega)] at hfe
          exact ⟨k + 1, by go_num, by have := HKL.out.1; omega, by rw [if_pos (by omega), ← hfe]; rfl, HCB.out⟩
        case measure => have := HKL.out.1; simp [Go.RowKit.intOf]; omega
      · have hqx : ¬ q = x := fun e => hki (HZI.out.1 e)
        have hqe : ((q : Int) == (x : Int)) = false := by rw [beq_eq_false_iff_ne]; omega
        have hqn : ¬ (q : Int) = (x : Int) := by omega
        clear hqx
        go_wp2_with (first | (go_at_call 12; refine (num17_any _ _).mono ?_; rintro e yn ⟨rfl, hyn⟩; subst yn))
        go_roundw
        case rel =>
          have hfe := HFE.out
          refine ⟨k + 1, by go_num, by have := HKL.out.1; omega, ?_, HCB.out⟩
          rw [← hfe]
          by_cases q2 : iu < k
          · rw [if_pos q2, if_pos (by omega)]
          · rw [if_neg q2, if_neg (by omega)]
        case measure => have := HKL.out.1; simp [Go.RowKit.intOf]; omega
    · have hkI : ¬ (k : Int) < l.length := by omega
      have hil := HIL.out
      rw [if_pos (by omega)]
      go_wp2_with fail
      go_ret
      exact ⟨rfl, go_on HB3.out HC.out⟩

/-! ### The row's step -/
theorem own : ownKnob Try.prog.godebug = none := by kernel_rfl
set_option maxRecDepth 100000 in
theorem lifted (os : Os) (started : os.Started) (H : Type) (enc : TypeId × Value → H) :
    ReturnsInHanded {} Try.checked os 3 .any (Rows.groupsGroupSpec.pre6 enc Try.prog Try.f3 Rows.groupsGroupRow.domain false) (Rows.groupsGroupSpec.post enc Try.prog Try.f3 false true false false) := by
  refine returnsInHanded_of_change_sized (C := Try.checked) own started (by kernel_rfl) Try.func3
    (ChangeSpec.witness6 (enc := enc) (C := Try.checked) false ⟨#[], #[.agg #[.int .i64 0, .slice none 0 0, .slice none 0 0], .int .i64 0, .int .i64 0, .int .i64 0], []⟩ 8 (by kernel_rfl) (by kernel_rfl) (by kernel_rfl) (by kernel_rfl)) ?_
  intro W base args ds gs before hval0 hW hcnd hsz0 _
  have hval : ∀ (j : Nat) t v, Try.f3.params[j]? = some t → args[j]? = some v → Value.okWide Try.prog W .any base t v := hval0
  clear hval0
  have hsz : (DataW.weightsEach Try.prog (Try.f3.params.toList ++ Rows.groupsGroupSpec.plain.varTypes Try.prog) (ds ++ gs)).all (· ≤ reachBytes) = true := hsz0
  clear hsz0
  have hW' := hW
  obtain ⟨p, q, hA0, hV, rfl, hfz, hnd⟩ := hW
  have hA : DataW.TrodAll enc Try.prog W 0 (fun _ => true) true Try.f3.params.toList args.toList ds p := hA0
  rw [Try.params3] at hA hval hsz
  obtain ⟨v0, vs0, d0, ds0, p0, q0, hargs, rfl, rfl, h0, r0⟩ := trodAll_cons hA
  obtain ⟨v1, vs1, d1, ds1, p1, q1, rfl, rfl, rfl, h1, r1⟩ := trodAll_cons r0
  obtain ⟨v2, vs2, d2, ds2, p2, q2, rfl, rfl, rfl, h2, r2⟩ := trodAll_cons r1
  obtain ⟨v3, vs3, d3, ds3, p3, q3, rfl, rfl, rfl, h3, r3⟩ := trodAll_cons r2
  obtain ⟨rfl, rfl, rfl⟩ := trodAll_nil r3
  obtain rfl : args = #[v0, v1, v2, v3] := by cases args; simp_all
  obtain ⟨rfl, rfl⟩ := trodVars_none hV
  obtain ⟨a0, x0, n0, w0, dk0, dn0, da0, e0, y0, z0⟩ := open_auto (hval 0 25 v0 rfl rfl) h0
  have b0 := auto_bounds hsz (j := 0) rfl (by rw [e0]; rfl) y0 z0
  have g0 : ∀ x ∈ p0, x.block < W.heap.size := fun x hx => hW'.lt x (by simp [hx])
  obtain ⟨a1, rfl, rfl, rfl, w1⟩ := open_int Try.underlying3 (hval 1 3 v1 rfl rfl) h1
  obtain ⟨a2, rfl, rfl, rfl, w2⟩ := open_int Try.underlying3 (hval 2 3 v2 rfl rfl) h2
  obtain ⟨a3, rfl, rfl, rfl, w3⟩ := open_int Try.underlying3 (hval 3 3 v3 rfl rfl) h3
  clear hA0
  refine (walk v0 a0 a1 a2 a3 W x0 n0 b0.1 b0.2 (i64_of w1) (i64_of w2) (i64_of w3)).mono fun e W' ⟨he, bel⟩ => ?_
  subst he
  exact ⟨_, rfl, _, _, _, [], _, [], hW', trodAll_mk1 (shut_bool Try.underlying4 _), (trodAll_cons_mk (Below.trod Try.laidOut (by kernel_rfl) (of_decide_eq_true (by kernel_rfl)) h0 bel g0) (trodAll_cons_mk (shut_int Try.underlying3 w1) (trodAll_cons_mk (shut_int Try.underlying3 w2) (trodAll_cons_mk (shut_int Try.underlying3 w3) trodAll_mk0)))), rfl, bel.frame _, fun h => by cases h⟩

theorem over : Rows.groupsGroupRow.holds Try.pinned (OpenSpec.ofChange Rows.groupsGroupSpec) :=
  OpenClaim.holds_of_wide 3 Try.f3 rfl rfl rfl rfl rfl rfl rfl ⟨rfl, rfl, rfl, rfl, rfl⟩ rfl rfl rfl rfl rfl (by kernel_rfl) Try.func3 (by kernel_rfl)
    (of_decide_eq_true (by kernel_rfl)) (by unfold Func.isWrapper; first | (rw [if_pos (by decide +kernel)]; kernel_rfl) | (rw [if_neg (by decide +kernel)]; exact ⟨rfl, rfl⟩))
    (fun os started H enc _ => lifted os started H enc)

end Go.Proofs.Ytlohfeogaalfcaa.groupsGroup
namespace Go.Proofs.Ytlohfeogaalfcaa
/-- The given statement. -/
theorem groupsGroup_holds : Rows.GroupsGroupSaid := groupsGroup.over
end Go.Proofs.Ytlohfeogaalfcaa
