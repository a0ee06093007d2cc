/- Proved: eggboxlaw18.OrderStates answers true at every automaton's data a and all numbers i, j (P18.4): where Build makes a monoid, an element is at most another one just where it leads each state that is met into no more, by the sets that States tells; these keep to the states that accept and to the letters; and the law's own monoid is as the law names it. No condition. -/
import Derived.Test.YtneiegbodnalbaaW4
import Derived.Test.YtneiegbodnalbaaE26
import Derived.ProofKit
import Derived.OpenShut
import Derived.ShutString
import Derived.ChangeOld
import Derived.SizedLaws
namespace Go.Proofs.Ytneiegbodnalbaa.orderStates
open Go Go.ChangeShapes Go.WideShapes Go.ChangeAt Go.RowKit Go.Lib
open Go.ChangeMaps (open_string shut_string)
set_option linter.unusedVariables false
attribute [-instance] List.instBEq instBEqProd

set_option maxHeartbeats 8000000 in
set_option maxRecDepth 100000 in
theorem walk (va : Value) (A : Aut) (a1 : Int) (a2 : Int) (W : World) (ha : AR W va A) (hna : NilOk va) (hma : (A.nx.length + 2) * 8 ≤ 140737488355328) (hma2 : A.ac.length ≤ 140737488355328) (h1 : I64 a1) (h2 : I64 a2) :
    Calls Try.prog 4 #[va, .int .i64 a1, .int .i64 a2] W fun e w' => e = .returned (.bool true) ∧ Below W.heap.size W w' := by
  obtain ⟨an, cn, aa, ca, ea, hx1, hx2⟩ := ha.is
  have HNX : Hid (SR W an (zC A.nx)) := hx1
  have HAC : Hid (SR W aa (bC A.ac)) := hx2
  have HAA : Hid (∀ y, Below W.heap.size W y → AR y va A) := fun y hy => ha.stay hy
  subst ea
  have HBU : Hid (∀ y, Below W.heap.size W y → Calls Try.prog 9 #[.agg #[.int .i64 A.k, .slice an A.nx.length cn, .slice aa A.ac.length ca]] y (B18 A y)) := fun y hy => built18_any _ A y (HAA.out y hy) (by omega) (by omega)
  obtain ⟨w0, hw0⟩ : ∃ w0, w0 = W.alloc (.cells #[.int .i64 A.k, .slice an A.nx.length cn, .slice aa A.ac.length ca] 26) := ⟨_, rfl⟩
  have HB0 : Hid (Below W.heap.size W w0) := by show Below _ _ _; rw [hw0]; exact below_new _ _
  have HW0 : Hid (w0 = W.alloc (.cells #[.int .i64 A.k, .slice an A.nx.length cn, .slice aa A.ac.length ca] 26)) := hw0
  have HR0 : Hid (RowAt w0 W.heap.size #[.int .i64 A.k, .slice an A.nx.length cn, .slice aa A.ac.length ca]) := by show RowAt _ _ _; rw [hw0]; exact RowAt.last _ _ _
  clear ha hna hma hma2 hw0 hx1 hx2
  go_enter Try.func4, Try.ntmps4
  go_wp2_with fail
  rw [← HW0.out]
  refine (HBU.out _ HB0.out).mono ?_
  rintro e w1 (⟨_, rfl, hb⟩ | ⟨ob, M, N, rfl, G, h64, hE, hmo, hb⟩)
  · have HB1 : Hid (Below W.heap.size W w1) := go_on HB0.out hb
    clear hb
    go_wp2_with fail
    refine (live18_any _).mono ?_
    rintro e w2 ⟨rfl, hb⟩
    have HB2 : Hid (Below W.heap.size W w2) := go_on HB1.out hb
    clear hb
    go_wp2_with fail
    go_ret
    exact ⟨rfl, HB2.out⟩
  have HB1 : Hid (Below W.heap.size W w1) := go_on HB0.out hb
  have HM1 : Hid (MO w1 ob A M N) := hmo
  have HR1 : Hid (RowAt w1 W.heap.size #[.int .i64 A.k, .slice an A.nx.length cn, .slice aa A.ac.length ca]) := HR0.out.stay hb
  have HMon : Hid (Mon A M N) := hmo.mon
  clear hb hmo G h64 hE
  go_wp2_with fail
  refine Calls.mono (at18_any HM1.out a1 h1) ?_
  rintro e w2 ⟨⟨i, hi, rfl⟩, hb⟩
  have HB2 : Hid (Below W.heap.size W w2) := go_on HB1.out hb
  have HM2 : Hid (MO w2 ob A M N) := HM1.out.below hb
  have HR2 : Hid (RowAt w2 W.heap.size #[.int .i64 A.k, .slice an A.nx.length cn, .slice aa A.ac.length ca]) := HR1.out.stay hb
  have HI : Hid (i < M.length) := hi
  clear hi
  clear hb
  go_wp2_with fail
  refine Calls.mono (at18_any HM2.out a2 h2) ?_
  rintro e w3 ⟨⟨j, hj, rfl⟩, hb⟩
  have HB3 : Hid (Below W.heap.size W w3) := go_on HB2.out hb
  have HM3 : Hid (MO w3 ob A M N) := HM2.out.below hb
  have HR3 : Hid (RowAt w3 W.heap.size #[.int .i64 A.k, .slice an A.nx.length cn, .slice aa A.ac.length ca]) := HR2.out.stay hb
  have HJ : Hid (j < M.length) := hj
  clear hj
  clear hb
  go_wp2_with fail
  refine Calls.mono (States_ok HM3.out) ?_
  rintro e w4 ⟨g, L, rfl, hg, hls, hav, hb⟩
  have HB4 : Hid (Below W.heap.size W w4) := go_on HB3.out hb
  have HM4 : Hid (MO w4 ob A M N) := HM3.out.below hb
  have HR4 : Hid (RowAt w4 W.heap.size #[.int .i64 A.k, .slice an A.nx.length cn, .slice aa A.ac.length ca]) := HR3.out.stay hb
  have HLS4 : Hid (LS w4 g L) := hls
  have HAV : Hid (AbV A L) := hav
  clear hg hls hav
  clear hb
  go_wp2_with fail
  refine Calls.mono (Leq_v HM4.out i j HI.out HJ.out) ?_
  rintro e w5 ⟨rfl, hb⟩
  have HB5 : Hid (Below W.heap.size W w5) := go_on HB4.out hb
  have HM5 : Hid (MO w5 ob A M N) := HM4.out.below hb
  have HR5 : Hid (RowAt w5 W.heap.size #[.int .i64 A.k, .slice an A.nx.length cn, .slice aa A.ac.length ca]) := HR4.out.stay hb
  have HLS5 : Hid (LS w5 g L) := HLS4.out.below hb
  clear hb
  go_wp2_with fail
  refine Calls.mono (mword_ok HM5.out i HI.out) ?_
  rintro e w6 ⟨rfl, hb⟩
  have HB6 : Hid (Below W.heap.size W w6) := go_on HB5.out hb
  have HM6 : Hid (MO w6 ob A M N) := HM5.out.below hb
  have HR6 : Hid (RowAt w6 W.heap.size #[.int .i64 A.k, .slice an A.nx.length cn, .slice aa A.ac.length ca]) := HR5.out.stay hb
  have HLS6 : Hid (LS w6 g L) := HLS5.out.below hb
  clear hb
  go_wp2_with fail
  refine Calls.mono (mword_ok HM6.out j HJ.out) ?_
  rintro e w7 ⟨rfl, hb⟩
  have HB7 : Hid (Below W.heap.size W w7) := go_on HB6.out hb
  have HM7 : Hid (MO w7 ob A M N) := HM6.out.below hb
  have HR7 : Hid (RowAt w7 W.heap.size #[.int .i64 A.k, .slice an A.nx.length cn, .slice aa A.ac.length ca]) := HR6.out.stay hb
  have HLS7 : Hid (LS w7 g L) := HLS6.out.below hb
  clear hb
  obtain ⟨lb, hlb⟩ : ∃ b, lqV A M N i j = b := ⟨_, rfl⟩
  rw [hlb]
  have HLB : Hid (lqV A M N i j = lb) := hlb
  obtain ⟨si, hsi⟩ : ∃ x, wb (lw A.k.toNat N i) = x := ⟨_, rfl⟩
  obtain ⟨sj, hsj⟩ : ∃ x, wb (lw A.k.toNat N j) = x := ⟨_, rfl⟩
  have HSI : Hid (wb (lw A.k.toNat N i) = si ∧ wb (lw A.k.toNat N j) = sj) := ⟨hsi, hsj⟩
  rw [hsj]
  have cs := HR7.out.cell
  have hM5 : M.length ≤ 512 := HMon.out.most
  have HGO : Hid (∀ (y : World) (s x : Nat), Below W.heap.size W y → s < A.ac.length → x < M.length → Calls Try.prog 16 #[.agg #[.int .i64 A.k, .slice an A.nx.length cn, .slice aa A.ac.length ca], .int .i64 (s : Nat), .string (wb (lw A.k.toNat N x))] y fun e w' => e = .returned (.int .i64 (goN A s (lw A.k.toNat N x) : Nat)) ∧ Below y.heap.size y w') := fun y s x hy hs hx => by
    have q := wbs HMon.out hx
    have r := rgo_any _ A y (HAA.out y hy) HMon.out.G s hs (wb (lw A.k.toNat N x)) q.2.1 (by omega)
    rwa [q.2.2.2] at r
  have HHS : Hid (∀ (y : World) (X t : Nat), t < 64 → Calls Try.prog 17 #[.agg (cellsF (word X)), .int .i64 (t : Nat)] y fun e w' => e = .returned (.bool (X.testBit t)) ∧ Below y.heap.size y w') := fun y X t ht => by
    have q := has_any X (t : Nat) y
    rwa [hasN_small (by omega)] at q
  have HLD : Hid (∀ (y : World) (s : Nat), Below w7.heap.size w7 y → s < A.ac.length → (loadVar 55 ⟨g, s * 8, none⟩).run Try.prog y = .ok (.agg (cellsF (word (L.getD s 0)))) y) := fun y s hy hs => (HLS7.out.below hy).loadS (by rw [HAV.out.len]; exact hs)
  have hne : ((A.ac.length : Int) != (A.ac.length : Int)) = false := by simp
  have HN1 : Hid (1 ≤ A.ac.length ∧ A.ac.length ≤ 64) := ⟨by have := HMon.out.G.n1; omega, HMon.out.n64⟩
  clear hsi hsj hlb
  go_wp2_with (go_at_call 14; refine (num18_any _ _).mono ?_; rintro e yn ⟨rfl, hyn⟩; subst yn)
  clear cs hne
  go_loopw [17, 18] (fun vw vp wr => ∃ (p : Nat) (b : Bool), vw = .bool b ∧ vp = .int .i64 (p : Nat) ∧ p ≤ M.length ∧ (b = true ↔ ∀ q, q < p → Inc A (stO A N (Go.Proofs.Ytneiegbodnalbaa.pr A.k.toNat N q i)) (stO A N (Go.Proofs.Ytneiegbodnalbaa.pr A.k.toNat N q j))) ∧ Below w7.heap.size w7 wr) (fun _ vp _ => M.length - (Go.RowKit.intOf vp).toNat)
  case atStart => exact ⟨0, true, rfl, rfl, Nat.zero_le _, ⟨fun _ q hq => absurd hq (by omega), fun _ => rfl⟩, Below.refl _ _⟩
  case round =>
    obtain ⟨p, b, rfl, rfl, hp, hbb, hb⟩ := hrel
    have HBB : Hid (b = true ↔ ∀ q, q < p → Inc A (stO A N (Go.Proofs.Ytneiegbodnalbaa.pr A.k.toNat N q i)) (stO A N (Go.Proofs.Ytneiegbodnalbaa.pr A.k.toNat N q j))) := hbb
    have HC : Hid (Below w7.heap.size w7 wr) := hb
    have HMR : Hid (MO wr ob A M N) := HM7.out.below hb
    clear hbb hb
    by_cases hlt : p < M.length
    · have hpI : (p : Int) < M.length := by omega
      have hpd : decide ((p : Int) < M.length) = true := decide_eq_true hpI
      have hp5 : p < 512 := by omega
      have HP : Hid (p < M.length) := hlt
      have HWP : Hid _ := mword_ok HMR.out p hlt
      have HSP : Hid (goN A 0 (lw A.k.toNat N p) = stO A N p) := rfl
      obtain ⟨sp, hsp⟩ : ∃ s, stO A N p = s := ⟨_, rfl⟩
      have HSE : Hid (stO A N p = sp) := hsp
      have hspl : sp < A.ac.length := by rw [← hsp]; exact stO_lt HMon.out hlt
      have HSPL : Hid (sp < A.ac.length) := hspl
      rw [hsp] at HSP
      clear hsp hspl hlt hp
      go_wp2_with fail
      refine (mlen_any HMR.out).mono ?_
      rintro e yq ⟨rfl, rfl⟩
      go_wp2_with fail
      refine Calls.mono HWP.out ?_
      rintro e y1 ⟨rfl, hb⟩
      have HC1 : Hid (Below w7.heap.size w7 y1) := go_on HC.out hb
      have cs := (HR7.out.stay HC1.out).cell
      clear hb HWP
      go_wp2_with fail
      refine Calls.mono (HGO.out y1 0 p (go_on HB7.out HC1.out) (by have := HN1.out; omega) HP.out) ?_
      rintro e y2 ⟨rfl, hb⟩
      rw [HSP.out]
      have HC2 : Hid (Below w7.heap.size w7 y2) := go_on HC1.out hb
      have HRY : Hid (RowAt y2 W.heap.size #[.int .i64 A.k, .slice an A.nx.length cn, .slice aa A.ac.length ca]) := HR7.out.stay HC2.out
      clear hb cs
      go_upto_region 18 with fail
      cases b with
      | false =>
        refine wp_region_held_drew (S := fun y => Below y2.heap.size y2 y) (by kernel_rfl) (Below.refl _ _).drew (fun hH0 => ?_)
        generalize y2.drew = z0 at hH0 ⊢
        refine wpAnyH_take (i := 0) (oi := { dst := some 98, op := Go.Op.move (Go.Operand.tmp 17), type := 4, pos := "law.go:100", after := #[], guard := none }) (v := ?_) rfl (by kernel_rfl) (by kernel_rfl) (by kernel_rfl) (fun _ _ _ h => h) (Or.inl ⟨by rfl, ?_⟩) (by assumption) ?_
        rotate_left
        · intro w' hS; go_simp; (try with_reducible rfl)
        simp only [Act.put, List.setIfInBounds_toArray, List.set_cons_zero, List.set_cons_succ]
        refine wpAnyH_take (i := 1) (oi := { dst := some 99, op := Go.Op.move (Go.Operand.tmp 98), type := 4, pos := "law.go:100", after := #[{ on := 0, ground := Go.Ground.data }], guard := none }) (v := ?_) rfl (by kernel_rfl) (by kernel_rfl) (by kernel_rfl) (fun _ _ _ h => h) (Or.inl ⟨by rfl, ?_⟩) (by assumption) ?_
        rotate_left
        · intro w' hS; go_simp; (try with_reducible rfl)
        simp only [Act.put, List.setIfInBounds_toArray, List.set_cons_zero, List.set_cons_succ]
        refine wpAnyH_take (i := 2) (oi := { dst := some 100, op := Go.Op.move (Go.Operand.tmp 9), type := 41, pos := "law.go:100", after := #[{ on := 1, ground := Go.Ground.guard }], guard := some (1, true) }) (v := undef) rfl (by kernel_rfl) (by kernel_rfl) (by kernel_rfl) (fun _ _ _ h => h) (Or.inr ⟨by rfl, rfl⟩) (by assumption) ?_
        simp only [Act.put, List.setIfInBounds_toArray, List.set_cons_zero, List.set_cons_succ]
        refine wpAnyH_take (i := 3) (oi := { dst := some 101, op := Go.Op.load 26 (Go.Operand.tmp 3), type := 26, pos := "law.go:100", after := #[{ on := 1, ground := Go.Ground.guard }], guard := some (1, true) }) (v := undef) rfl (by kernel_rfl) (by kernel_rfl) (by kernel_rfl) (fun _ _ _ h => h) (Or.inr ⟨by rfl, rfl⟩) (by assumption) ?_
        simp only [Act.put, List.setIfInBounds_toArray, List.set_cons_zero, List.set_cons_succ]
        refine wpAnyH_take (i := 4) (oi := { dst := some 102, op := Go.Op.move (Go.Operand.tmp 21), type := 3, pos := "law.go:100", after := #[{ on := 1, ground := Go.Ground.guard }], guard := some (1, true) }) (v := undef) rfl (by kernel_rfl) (by kernel_rfl) (by kernel_rfl) (fun _ _ _ h => h) (Or.inr ⟨by rfl, rfl⟩) (by assumption) ?_
        simp only [Act.put, List.setIfInBounds_toArray, List.set_cons_zero, List.set_cons_succ]
        refine wpAnyH_take (i := 5) (oi := { dst := some 103, op := Go.Op.move (Go.Operand.tmp 13), type := 9, pos := "law.go:100", after := #[{ on := 1, ground := Go.Ground.guard }], guard := some (1, true) }) (v := undef) rfl (by kernel_rfl) (by kernel_rfl) (by kernel_rfl) (fun _ _ _ h => h) (Or.inr ⟨by rfl, rfl⟩) (by assumption) ?_
        simp only [Act.put, List.setIfInBounds_toArray, List.set_cons_zero, List.set_cons_succ]
        refine wpAnyH_take (i := 9) (oi := { dst := some 107, op := Go.Op.load 26 (Go.Operand.tmp 3), type := 26, pos := "law.go:100", after := #[{ on := 1, ground := Go.Ground.guard }], guard := some (1, true) }) (v := undef) rfl (by kernel_rfl) (by kernel_rfl) (by kernel_rfl) (fun _ _ _ h => h) (Or.inr ⟨by rfl, rfl⟩) (by assumption) ?_
        simp only [Act.put, List.setIfInBounds_toArray, List.set_cons_zero, List.set_cons_succ]
        refine wpAnyH_take (i := 10) (oi := { dst := some 108, op := Go.Op.move (Go.Operand.tmp 21), type := 3, pos := "law.go:100", after := #[{ on := 1, ground := Go.Ground.guard }], guard := some (1, true) }) (v := undef) rfl (by kernel_rfl) (by kernel_rfl) (by kernel_rfl) (fun _ _ _ h => h) (Or.inr ⟨by rfl, rfl⟩) (by assumption) ?_
        simp only [Act.put, List.setIfInBounds_toArray, List.set_cons_zero, List.set_cons_succ]
        refine wpAnyH_take (i := 11) (oi := { dst := some 109, op := Go.Op.move (Go.Operand.tmp 15), type := 9, pos := "law.go:100", after := #[{ on := 1, ground := Go.Ground.guard }], guard := some (1, true) }) (v := undef) rfl (by kernel_rfl) (by kernel_rfl) (by kernel_rfl) (fun _ _ _ h => h) (Or.inr ⟨by rfl, rfl⟩) (by assumption) ?_
        simp only [Act.put, List.setIfInBounds_toArray, List.set_cons_zero, List.set_cons_succ]
        refine wpAnyH_ready (rs := [6]) (by kernel_rfl) (by simp) ?_
        refine AllReadyH.cons rfl (fun K hK => ?_) AllReadyH.nil
        go_simp
        refine hK.out _ _ hH0 (fun hH0 => ?_)
        clear hK K
        refine wpAnyH_take (i := 7) (oi := { dst := some 105, op := Go.Op.indexAddr 41 (Go.Operand.tmp 100) (Go.Operand.tmp 104), type := 0, pos := "law.go:100", after := #[{ on := 2, ground := Go.Ground.data }, { on := 6, ground := Go.Ground.data }, { on := 1, ground := Go.Ground.guard }], guard := some (1, true) }) (v := undef) rfl (by kernel_rfl) (by kernel_rfl) (by kernel_rfl) (fun _ _ _ h => h) (Or.inr ⟨by rfl, rfl⟩) (by assumption) ?_
        simp only [Act.put, List.setIfInBounds_toArray, List.set_cons_zero, List.set_cons_succ]
        refine wpAnyH_take (i := 8) (oi := { dst := some 106, op := Go.Op.load 55 (Go.Operand.tmp 105), type := 55, pos := "law.go:100", after := #[{ on := 7, ground := Go.Ground.data }, { on := 1, ground := Go.Ground.guard }], guard := some (1, true) }) (v := undef) rfl (by kernel_rfl) (by kernel_rfl) (by kernel_rfl) (fun _ _ _ h => h) (Or.inr ⟨by rfl, rfl⟩) (by assumption) ?_
        simp only [Act.put, List.setIfInBounds_toArray, List.set_cons_zero, List.set_cons_succ]
        refine wpAnyH_ready (rs := [12]) (by kernel_rfl) (by simp) ?_
        refine AllReadyH.cons rfl (fun K hK => ?_) AllReadyH.nil
        go_simp
        refine hK.out _ _ hH0 (fun hH0 => ?_)
        clear hK K
        refine wpAnyH_ready (rs := [13]) (by kernel_rfl) (by simp) ?_
        refine AllReadyH.cons rfl (fun K hK => ?_) AllReadyH.nil
        go_simp
        refine hK.out _ _ hH0 (fun hH0 => ?_)
        clear hK K
        refine wpAnyH_take (i := 14) (oi := { dst := some 112, op := Go.Op.pick (Go.Operand.tmp 99) (Go.Operand.tmp 111) (Go.Operand.const (Go.Value.bool false)), type := 4, pos := "law.go:100", after := #[{ on := 1, ground := Go.Ground.data }, { on := 13, ground := Go.Ground.data }], guard := none }) (v := ?_) rfl (by kernel_rfl) (by kernel_rfl) (by kernel_rfl) (fun _ _ _ h => h) (Or.inl ⟨by rfl, ?_⟩) (by assumption) ?_
        rotate_left
        · intro w' hS; go_simp; (try with_reducible rfl)
        simp only [Act.put, List.setIfInBounds_toArray, List.set_cons_zero, List.set_cons_succ]
        refine wpAnyH_take (i := 15) (oi := { dst := some 17, op := Go.Op.assign (Go.Operand.tmp 112), type := 4, pos := "law.go:100", after := #[{ on := 14, ground := Go.Ground.data }, { on := 13, ground := Go.Ground.chain }, { on := 0, ground := Go.Ground.phase }, { on := 1, ground := Go.Ground.phase }, { on := 2, ground := Go.Ground.phase }, { on := 3, ground := Go.Ground.phase }, { on := 4, ground := Go.Ground.phase }, { on := 5, ground := Go.Ground.phase }, { on := 6, ground := Go.Ground.phase }, { on := 7, ground := Go.Ground.phase }, { on := 8, ground := Go.Ground.phase }, { on := 9, ground := Go.Ground.phase }, { on := 10, ground := Go.Ground.phase }, { on := 11, ground := Go.Ground.phase }, { on := 12, ground := Go.Ground.phase }, { on := 13, ground := Go.Ground.phase }, { on := 14, ground := Go.Ground.phase }], guard := none }) (v := ?_) rfl (by kernel_rfl) (by kernel_rfl) (by kernel_rfl) (fun _ _ _ h => h) (Or.inl ⟨by rfl, ?_⟩) (by assumption) ?_
        rotate_left
        · intro w' hS; go_simp; (try with_reducible rfl)
        simp only [Act.put, List.setIfInBounds_toArray, List.set_cons_zero, List.set_cons_succ]
        refine wpAnyH_done (by kernel_rfl) ?_ _
        go_wp2_with fail
        go_roundw
        case rel =>
          refine ⟨p + 1, false, rfl, by go_num, HP.out, ⟨fun q => (by cases q), fun q => ?_⟩, go_on HC2.out hH0⟩
          exact absurd (HBB.out.2 fun r hr => q r (by omega)) (by decide)
        case measure => have := HP.out; simp [Go.RowKit.intOf]; omega
      | true =>
        have hs1 := stO_lt HMon.out (HMon.out.pr_lt HP.out HI.out)
        have hs2 := stO_lt HMon.out (HMon.out.pr_lt HP.out HJ.out)
        have e1 := stO_pr HMon.out HP.out HI.out
        have e2 := stO_pr HMon.out HP.out HJ.out
        rw [HSE.out] at e1 e2
        obtain ⟨s1, hs1e⟩ : ∃ x, stO A N (Go.Proofs.Ytneiegbodnalbaa.pr A.k.toNat N p i) = x := ⟨_, rfl⟩
        obtain ⟨s2, hs2e⟩ : ∃ x, stO A N (Go.Proofs.Ytneiegbodnalbaa.pr A.k.toNat N p j) = x := ⟨_, rfl⟩
        rw [hs1e] at hs1 e1
        rw [hs2e] at hs2 e2
        obtain ⟨X, hX⟩ : ∃ X, L.getD s1 0 = X := ⟨_, rfl⟩
        obtain ⟨c, hc⟩ : ∃ c, X.testBit s2 = c := ⟨_, rfl⟩
        have HCI : Hid (c = true ↔ Inc A (stO A N (Go.Proofs.Ytneiegbodnalbaa.pr A.k.toNat N p i)) (stO A N (Go.Proofs.Ytneiegbodnalbaa.pr A.k.toNat N p j))) := by
          show _ ↔ _
          rw [hs1e, hs2e, ← HAV.out.iff s1 s2 hs1 hs2, hX, hc]
        have HG1 : Hid (∀ y, Below y2.heap.size y2 y → Calls Try.prog 16 #[.agg #[.int .i64 A.k, .slice an A.nx.length cn, .slice aa A.ac.length ca], .int .i64 (sp : Nat), .string (wb (lw A.k.toNat N i))] y fun e w' => e = .returned (.int .i64 (s1 : Nat)) ∧ Below y.heap.size y w') := fun y hy => by
          have r := HGO.out y sp i (go_on HB7.out (go_on HC2.out hy)) HSPL.out HI.out
          rwa [← e1] at r
        have HG2 : Hid (∀ y, Below y2.heap.size y2 y → Calls Try.prog 16 #[.agg #[.int .i64 A.k, .slice an A.nx.length cn, .slice aa A.ac.length ca], .int .i64 (sp : Nat), .string sj] y fun e w' => e = .returned (.int .i64 (s2 : Nat)) ∧ Below y.heap.size y w') := fun y hy => by
          have r := HGO.out y sp j (go_on HB7.out (go_on HC2.out hy)) HSPL.out HJ.out
          rwa [← e2, HSI.out.2] at r
        have HLX : Hid (∀ y, Below y2.heap.size y2 y → (loadVar 55 ⟨g, s1 * 8, none⟩).run Try.prog y = .ok (.agg (cellsF (word X))) y) := fun y hy => by
          have r := HLD.out y s1 (go_on HC2.out hy) hs1
          rwa [hX] at r
        have HHX : Hid (∀ y, Calls Try.prog 17 #[.agg (cellsF (word X)), .int .i64 (s2 : Nat)] y fun e w' => e = .returned (.bool c) ∧ Below y.heap.size y w') := fun y => by
          have r := HHS.out y X s2 (by have := HN1.out; omega)
          rwa [hc] at r
        have hi1 : (s1 : Int) < A.ac.length := by omega
        clear hs1 hs2 e1 e2 hs1e hs2e hX hc
        refine wp_region_held_drew (S := fun y => Below y2.heap.size y2 y) (by kernel_rfl) (Below.refl _ _).drew (fun hH0 => ?_)
        generalize y2.drew = z0 at hH0 ⊢
        refine wpAnyH_take (i := 0) (oi := { dst := some 98, op := Go.Op.move (Go.Operand.tmp 17), type := 4, pos := "law.go:100", after := #[], guard := none }) (v := ?_) rfl (by kernel_rfl) (by kernel_rfl) (by kernel_rfl) (fun _ _ _ h => h) (Or.inl ⟨by rfl, ?_⟩) (by assumption) ?_
        rotate_left
        · intro w' hS; go_simp; (try with_reducible rfl)
        simp only [Act.put, List.setIfInBounds_toArray, List.set_cons_zero, List.set_cons_succ]
        refine wpAnyH_take (i := 1) (oi := { dst := some 99, op := Go.Op.move (Go.Operand.tmp 98), type := 4, pos := "law.go:100", after := #[{ on := 0, ground := Go.Ground.data }], guard := none }) (v := ?_) rfl (by kernel_rfl) (by kernel_rfl) (by kernel_rfl) (fun _ _ _ h => h) (Or.inl ⟨by rfl, ?_⟩) (by assumption) ?_
        rotate_left
        · intro w' hS; go_simp; (try with_reducible rfl)
        simp only [Act.put, List.setIfInBounds_toArray, List.set_cons_zero, List.set_cons_succ]
        refine wpAnyH_take (i := 2) (oi := { dst := some 100, op := Go.Op.move (Go.Operand.tmp 9), type := 41, pos := "law.go:100", after := #[{ on := 1, ground := Go.Ground.guard }], guard := some (1, true) }) (v := ?_) rfl (by kernel_rfl) (by kernel_rfl) (by kernel_rfl) (fun _ _ _ h => h) (Or.inl ⟨by rfl, ?_⟩) (by assumption) ?_
        rotate_left
        · intro w' hS; go_simp; (try with_reducible rfl)
        simp only [Act.put, List.setIfInBounds_toArray, List.set_cons_zero, List.set_cons_succ]
        refine wpAnyH_take (i := 3) (oi := { dst := some 101, op := Go.Op.load 26 (Go.Operand.tmp 3), type := 26, pos := "law.go:100", after := #[{ on := 1, ground := Go.Ground.guard }], guard := some (1, true) }) (v := .agg #[.int .i64 A.k, .slice an A.nx.length cn, .slice aa A.ac.length ca]) rfl (by kernel_rfl) (by kernel_rfl) (by kernel_rfl) (fun _ _ _ h => h) (Or.inl ⟨by rfl, ?_⟩) (by assumption) ?_
        · intro w' hS; have hz := (HRY.out.stay hS).cell; go_simp
        simp only [Act.put, List.setIfInBounds_toArray, List.set_cons_zero, List.set_cons_succ]
        refine wpAnyH_take (i := 4) (oi := { dst := some 102, op := Go.Op.move (Go.Operand.tmp 21), type := 3, pos := "law.go:100", after := #[{ on := 1, ground := Go.Ground.guard }], guard := some (1, true) }) (v := ?_) rfl (by kernel_rfl) (by kernel_rfl) (by kernel_rfl) (fun _ _ _ h => h) (Or.inl ⟨by rfl, ?_⟩) (by assumption) ?_
        rotate_left
        · intro w' hS; go_simp; (try with_reducible rfl)
        simp only [Act.put, List.setIfInBounds_toArray, List.set_cons_zero, List.set_cons_succ]
        refine wpAnyH_take (i := 5) (oi := { dst := some 103, op := Go.Op.move (Go.Operand.tmp 13), type := 9, pos := "law.go:100", after := #[{ on := 1, ground := Go.Ground.guard }], guard := some (1, true) }) (v := ?_) rfl (by kernel_rfl) (by kernel_rfl) (by kernel_rfl) (fun _ _ _ h => h) (Or.inl ⟨by rfl, ?_⟩) (by assumption) ?_
        rotate_left
        · intro w' hS; go_simp; (try with_reducible rfl)
        simp only [Act.put, List.setIfInBounds_toArray, List.set_cons_zero, List.set_cons_succ]
        refine wpAnyH_take (i := 9) (oi := { dst := some 107, op := Go.Op.load 26 (Go.Operand.tmp 3), type := 26, pos := "law.go:100", after := #[{ on := 1, ground := Go.Ground.guard }], guard := some (1, true) }) (v := .agg #[.int .i64 A.k, .slice an A.nx.length cn, .slice aa A.ac.length ca]) rfl (by kernel_rfl) (by kernel_rfl) (by kernel_rfl) (fun _ _ _ h => h) (Or.inl ⟨by rfl, ?_⟩) (by assumption) ?_
        · intro w' hS; have hz := (HRY.out.stay hS).cell; go_simp
        simp only [Act.put, List.setIfInBounds_toArray, List.set_cons_zero, List.set_cons_succ]
        refine wpAnyH_take (i := 10) (oi := { dst := some 108, op := Go.Op.move (Go.Operand.tmp 21), type := 3, pos := "law.go:100", after := #[{ on := 1, ground := Go.Ground.guard }], guard := some (1, true) }) (v := ?_) rfl (by kernel_rfl) (by kernel_rfl) (by kernel_rfl) (fun _ _ _ h => h) (Or.inl ⟨by rfl, ?_⟩) (by assumption) ?_
        rotate_left
        · intro w' hS; go_simp; (try with_reducible rfl)
        simp only [Act.put, List.setIfInBounds_toArray, List.set_cons_zero, List.set_cons_succ]
        refine wpAnyH_take (i := 11) (oi := { dst := some 109, op := Go.Op.move (Go.Operand.tmp 15), type := 9, pos := "law.go:100", after := #[{ on := 1, ground := Go.Ground.guard }], guard := some (1, true) }) (v := ?_) rfl (by kernel_rfl) (by kernel_rfl) (by kernel_rfl) (fun _ _ _ h => h) (Or.inl ⟨by rfl, ?_⟩) (by assumption) ?_
        rotate_left
        · intro w' hS; go_simp; (try with_reducible rfl)
        simp only [Act.put, List.setIfInBounds_toArray, List.set_cons_zero, List.set_cons_succ]
        refine wpAnyH_ready (rs := [6]) (by kernel_rfl) (by simp) ?_
        refine AllReadyH.cons rfl (fun K hK => ?_) AllReadyH.nil
        go_simp
        go_at_call 16
        refine Calls.mono (HG1.out _ hH0) ?_
        rintro e z1 ⟨rfl, hB⟩
        have hN : Below y2.heap.size y2 z1 := go_on hH0 hB
        clear hB
        go_wp2_with fail
        refine hK.out _ _ hN (fun hH1 => ?_)
        clear hN
        clear hK K
        refine wpAnyH_take (i := 7) (oi := { dst := some 105, op := Go.Op.indexAddr 41 (Go.Operand.tmp 100) (Go.Operand.tmp 104), type := 0, pos := "law.go:100", after := #[{ on := 2, ground := Go.Ground.data }, { on := 6, ground := Go.Ground.data }, { on := 1, ground := Go.Ground.guard }], guard := some (1, true) }) (v := ?_) rfl (by kernel_rfl) (by kernel_rfl) (by kernel_rfl) (fun _ _ _ h => h) (Or.inl ⟨by rfl, ?_⟩) (by assumption) ?_
        rotate_left
        · intro w' hS; go_simp; (try with_reducible rfl)
        simp only [Act.put, List.setIfInBounds_toArray, List.set_cons_zero, List.set_cons_succ]
        refine wpAnyH_take (i := 8) (oi := { dst := some 106, op := Go.Op.load 55 (Go.Operand.tmp 105), type := 55, pos := "law.go:100", after := #[{ on := 7, ground := Go.Ground.data }, { on := 1, ground := Go.Ground.guard }], guard := some (1, true) }) (v := .agg (cellsF (word X))) rfl (by kernel_rfl) (by kernel_rfl) (by kernel_rfl) (fun _ _ _ h => h) (Or.inl ⟨by rfl, ?_⟩) (by assumption) ?_
        · intro w' hS; exact ex_load_at (ad := ⟨g, s1 * 8, none⟩) rfl rfl (HLX.out w' hS)
        simp only [Act.put, List.setIfInBounds_toArray, List.set_cons_zero, List.set_cons_succ]
        refine wpAnyH_ready (rs := [12]) (by kernel_rfl) (by simp) ?_
        refine AllReadyH.cons rfl (fun K hK => ?_) AllReadyH.nil
        go_simp
        go_at_call 16
        refine Calls.mono (HG2.out _ hH1) ?_
        rintro e z2 ⟨rfl, hB⟩
        have hN : Below y2.heap.size y2 z2 := go_on hH1 hB
        clear hB
        go_wp2_with fail
        refine hK.out _ _ hN (fun hH2 => ?_)
        clear hN
        clear hK K
        refine wpAnyH_ready (rs := [13]) (by kernel_rfl) (by simp) ?_
        refine AllReadyH.cons rfl (fun K hK => ?_) AllReadyH.nil
        go_simp
        go_at_call 17
        refine Calls.mono (HHX.out _) ?_
        rintro e z3 ⟨rfl, hB⟩
        have hN : Below y2.heap.size y2 z3 := go_on hH2 hB
        clear hB
        go_wp2_with fail
        refine hK.out _ _ hN (fun hH3 => ?_)
        clear hN
        clear hK K
        refine wpAnyH_take (i := 14) (oi := { dst := some 112, op := Go.Op.pick (Go.Operand.tmp 99) (Go.Operand.tmp 111) (Go.Operand.const (Go.Value.bool false)), type := 4, pos := "law.go:100", after := #[{ on := 1, ground := Go.Ground.data }, { on := 13, ground := Go.Ground.data }], guard := none }) (v := ?_) rfl (by kernel_rfl) (by kernel_rfl) (by kernel_rfl) (fun _ _ _ h => h) (Or.inl ⟨by rfl, ?_⟩) (by assumption) ?_
        rotate_left
        · intro w' hS; go_simp; (try with_reducible rfl)
        simp only [Act.put, List.setIfInBounds_toArray, List.set_cons_zero, List.set_cons_succ]
        refine wpAnyH_take (i := 15) (oi := { dst := some 17, op := Go.Op.assign (Go.Operand.tmp 112), type := 4, pos := "law.go:100", after := #[{ on := 14, ground := Go.Ground.data }, { on := 13, ground := Go.Ground.chain }, { on := 0, ground := Go.Ground.phase }, { on := 1, ground := Go.Ground.phase }, { on := 2, ground := Go.Ground.phase }, { on := 3, ground := Go.Ground.phase }, { on := 4, ground := Go.Ground.phase }, { on := 5, ground := Go.Ground.phase }, { on := 6, ground := Go.Ground.phase }, { on := 7, ground := Go.Ground.phase }, { on := 8, ground := Go.Ground.phase }, { on := 9, ground := Go.Ground.phase }, { on := 10, ground := Go.Ground.phase }, { on := 11, ground := Go.Ground.phase }, { on := 12, ground := Go.Ground.phase }, { on := 13, ground := Go.Ground.phase }, { on := 14, ground := Go.Ground.phase }], guard := none }) (v := ?_) rfl (by kernel_rfl) (by kernel_rfl) (by kernel_rfl) (fun _ _ _ h => h) (Or.inl ⟨by rfl, ?_⟩) (by assumption) ?_
        rotate_left
        · intro w' hS; go_simp; (try with_reducible rfl)
        simp only [Act.put, List.setIfInBounds_toArray, List.set_cons_zero, List.set_cons_succ]
        refine wpAnyH_done (by kernel_rfl) ?_ _
        go_wp2_with fail
        go_roundw
        case rel =>
          refine ⟨p + 1, c, rfl, by go_num, HP.out, ?_, go_on HC2.out hH3⟩
          rw [HCI.out]
          constructor
          · intro q r hr
            by_cases e : r = p
            · rw [e]; exact q
            · exact HBB.out.1 (by first | rfl | trivial) r (by omega)
          · exact fun q => q p (by omega)
        case measure => have := HP.out; simp [Go.RowKit.intOf]; omega
    · have hpI : ¬ (p : Int) < M.length := by omega
      have hpd : decide ((p : Int) < M.length) = false := decide_eq_false hpI
      have hbl : b = lb := by
        have e1 : (b = true ↔ lb = true) := by
          rw [HBB.out, ← HLB.out, lqV_iff]
          exact ⟨fun q r hr => q r (by omega), fun q r hr => q r (by omega)⟩
        cases b <;> cases lb <;> simp_all
      subst hbl
      clear hlt hp HBB
      go_wp2_with (go_at_call 15; refine (mlen_any HMR.out).mono ?_; rintro e yn ⟨rfl, hyn⟩; subst yn)
      go_loopw [22] (fun vs wr => ∃ s : Nat, vs = .int .i64 (s : Nat) ∧ s ≤ A.ac.length ∧ Below w7.heap.size w7 wr) (fun vs _ => A.ac.length - (Go.RowKit.intOf vs).toNat)
      case atStart => exact ⟨0, rfl, Nat.zero_le _, HC.out⟩
      case round =>
        clear HC HMR
        obtain ⟨s, rfl, hs, hb⟩ := hrel
        have HC : Hid (Below w7.heap.size w7 wr) := hb
        have hn1 := HN1.out
        clear hb
        by_cases hlt : s < A.ac.length
        · have hsI : (s : Int) < A.ac.length := by omega
          have hsd : decide ((s : Int) < A.ac.length) = true := decide_eq_true hsI
          have hs5 : s < 512 := by omega
          have HS : Hid (s < A.ac.length) := hlt
          clear hlt hs hn1
          go_wp2_with fail
          go_loopw [23] (fun vt wr => ∃ t : Nat, vt = .int .i64 (t : Nat) ∧ t ≤ A.ac.length ∧ Below w7.heap.size w7 wr) (fun vt _ => A.ac.length - (Go.RowKit.intOf vt).toNat)
          case atStart => exact ⟨0, rfl, Nat.zero_le _, HC.out⟩
          case round =>
            clear HC
            obtain ⟨t, rfl, ht, hb⟩ := hrel
            have HC : Hid (Below w7.heap.size w7 wr) := hb
            have hn1 := HN1.out
            clear hb
            by_cases hlt : t < A.ac.length
            · have htI : (t : Int) < A.ac.length := by omega
              have htd : decide ((t : Int) < A.ac.length) = true := decide_eq_true htI
              have ht5 : t < 512 := by omega
              have HT : Hid (t < A.ac.length) := hlt
              obtain ⟨X, hX⟩ : ∃ X, L.getD s 0 = X := ⟨_, rfl⟩
              obtain ⟨c, hc⟩ : ∃ c, X.testBit t = c := ⟨_, rfl⟩
              have HXE : Hid (L.getD s 0 = X) := hX
              have HCI : Hid (c = true ↔ Inc A s t) := by
                show _ ↔ _
                rw [← HAV.out.iff s t HS.out hlt, hX, hc]
              have HHX : Hid (∀ y, Calls Try.prog 17 #[.agg (cellsF (word X)), .int .i64 (t : Nat)] y fun e w' => e = .returned (.bool c) ∧ Below y.heap.size y w') := fun y => by
                have r := HHS.out y X t (by omega)
                rwa [hc] at r
              have HLX0 : Hid (∀ y, Below w7.heap.size w7 y → (loadVar 55 ⟨g, s * 8, none⟩).run Try.prog y = .ok (.agg (cellsF (word X))) y) := fun y hy => by
                have r := HLD.out y s hy HS.out
                rwa [hX] at r
              obtain ⟨bvs, has⟩ : ∃ b, A.ac.getD s false = b := ⟨_, rfl⟩
              obtain ⟨bvt, hat⟩ : ∃ b, A.ac.getD t false = b := ⟨_, rfl⟩
              have HAST : Hid (aN A s = bvs ∧ aN A t = bvt) := ⟨has, hat⟩
              have hlx := HLX0.out wr HC.out
              clear hX hc hlt ht hn1
              obtain ⟨ga, oa, ea, _, hca⟩ := (HAC.out.stay (go_on HB7.out HC.out)).bool (i := s) HS.out
              obtain ⟨ga', oa', ea', _, hcb⟩ := (HAC.out.stay (go_on HB7.out HC.out)).bool (i := t) HT.out
              subst ea
              simp only [Option.some.injEq, Addr.mk.injEq, and_true] at ea'
              obtain ⟨rfl, rfl⟩ := ea'
              rw [has] at hca
              rw [hat] at hcb
              have HCA : Hid (∀ y, Below wr.heap.size wr y → y.cell? ⟨ga, oa + s, none⟩ = some (.bool bvs) ∧ y.cell? ⟨ga, oa + t, none⟩ = some (.bool bvt)) := fun y hy => ⟨by rw [below_cellJ hy (World.block_lt_of_cell? _ _ hca)]; exact hca, by rw [below_cellJ hy (World.block_lt_of_cell? _ _ hcb)]; exact hcb⟩
              clear has hat hca hcb
              cases c with
              | false =>
                go_wp2_with (first | (refine oa_load (ad := ⟨g, s * 8, none⟩) rfl rfl hlx rfl ?_) | (go_at_call 17; refine (HHX.out _).mono ?_; rintro e y1 ⟨rfl, hb⟩; have HC1 : Hid (Below w7.heap.size w7 y1) := go_on HC.out hb; have hk2 := (HR7.out.stay HC1.out).cell 2; have hk3 := (HCA.out y1 hb).1; have hk4 := (HCA.out y1 hb).2; have hk0 : y1.cell? ⟨W.heap.size, 0, none⟩ = some (.int .i64 A.k) := (HR7.out.stay HC1.out).cell 0; clear hb))
                clear hk0 hk2 hk3 hk4 hlx
                go_loopw [24] (fun vl wr => ∃ l : Nat, vl = .int .i64 (l : Nat) ∧ l ≤ A.k.toNat ∧ Below w7.heap.size w7 wr) (fun vl _ => A.k.toNat - (Go.RowKit.intOf vl).toNat)
                case atStart => exact ⟨0, rfl, Nat.zero_le _, HC1.out⟩
                case round =>
                  clear HC1 HC
                  obtain ⟨l, rfl, hl, hb⟩ := hrel
                  have HC : Hid (Below w7.heap.size w7 wr) := hb
                  have HRY : Hid (RowAt wr W.heap.size #[.int .i64 A.k, .slice an A.nx.length cn, .slice _ A.ac.length ca]) := HR7.out.stay hb
                  have hks := HMon.out.G.ks
                  have hk0 : wr.cell? ⟨W.heap.size, 0, none⟩ = some (.int .i64 A.k) := HRY.out.cell 0
                  clear hb
                  by_cases hlk : l < A.k.toNat
                  · have hlI : (l : Int) < A.k := by omega
                    have hld : decide ((l : Int) < A.k) = true := decide_eq_true hlI
                    have HLK : Hid (l < A.k.toNat) := hlk
                    have hl8 : l < 8 := by omega
                    have HLX : Hid (∀ y, Below wr.heap.size wr y → (loadVar 55 ⟨g, s * 8, none⟩).run Try.prog y = .ok (.agg (cellsF (word X))) y) := fun y hy => HLX0.out y (go_on HC.out hy)
                    clear hlk hl hks
                    go_wp2_with fail
                    clear hk0
                    refine wp_region_held_drew (S := fun y => Below wr.heap.size wr y) (by kernel_rfl) (Below.refl _ _).drew (fun hH0 => ?_)
                    generalize wr.drew = z0 at hH0 ⊢
                    refine wpAnyH_take (i := 0) (oi := { dst := some 152, op := Go.Op.move (Go.Operand.tmp 9), type := 41, pos := "law.go:108", after := #[], guard := none }) (v := ?_) rfl (by kernel_rfl) (by kernel_rfl) (by kernel_rfl) (fun _ _ _ h => h) (Or.inl ⟨by rfl, ?_⟩) (by assumption) ?_
                    rotate_left
                    · intro w' hS; go_simp; (try with_reducible rfl)
                    simp only [Act.put, List.setIfInBounds_toArray, List.set_cons_zero, List.set_cons_succ]
                    refine wpAnyH_take (i := 1) (oi := { dst := some 153, op := Go.Op.move (Go.Operand.tmp 22), type := 3, pos := "law.go:108", after := #[], guard := none }) (v := ?_) rfl (by kernel_rfl) (by kernel_rfl) (by kernel_rfl) (fun _ _ _ h => h) (Or.inl ⟨by rfl, ?_⟩) (by assumption) ?_
                    rotate_left
                    · intro w' hS; go_simp; (try with_reducible rfl)
                    simp only [Act.put, List.setIfInBounds_toArray, List.set_cons_zero, List.set_cons_succ]
                    refine wpAnyH_take (i := 2) (oi := { dst := some 154, op := Go.Op.indexAddr 41 (Go.Operand.tmp 152) (Go.Operand.tmp 153), type := 0, pos := "law.go:108", after := #[{ on := 0, ground := Go.Ground.data }, { on := 1, ground := Go.Ground.data }], guard := none }) (v := ?_) rfl (by kernel_rfl) (by kernel_rfl) (by kernel_rfl) (fun _ _ _ h => h) (Or.inl ⟨by rfl, ?_⟩) (by assumption) ?_
                    rotate_left
                    · intro w' hS; go_simp; (try with_reducible rfl)
                    simp only [Act.put, List.setIfInBounds_toArray, List.set_cons_zero, List.set_cons_succ]
                    refine wpAnyH_take (i := 3) (oi := { dst := some 155, op := Go.Op.load 55 (Go.Operand.tmp 154), type := 55, pos := "law.go:108", after := #[{ on := 2, ground := Go.Ground.data }], guard := none }) (v := .agg (cellsF (word X))) rfl (by kernel_rfl) (by kernel_rfl) (by kernel_rfl) (fun _ _ _ h => h) (Or.inl ⟨by rfl, ?_⟩) (by assumption) ?_
                    · intro w' hS; exact ex_load_at (ad := ⟨g, s * 8, none⟩) rfl rfl (HLX.out w' hS)
                    simp only [Act.put, List.setIfInBounds_toArray, List.set_cons_zero, List.set_cons_succ]
                    refine wpAnyH_take (i := 4) (oi := { dst := some 156, op := Go.Op.move (Go.Operand.tmp 23), type := 3, pos := "law.go:108", after := #[], guard := none }) (v := ?_) rfl (by kernel_rfl) (by kernel_rfl) (by kernel_rfl) (fun _ _ _ h => h) (Or.inl ⟨by rfl, ?_⟩) (by assumption) ?_
                    rotate_left
                    · intro w' hS; go_simp; (try with_reducible rfl)
                    simp only [Act.put, List.setIfInBounds_toArray, List.set_cons_zero, List.set_cons_succ]
                    refine wpAnyH_ready (rs := [5]) (by kernel_rfl) (by simp) ?_
                    refine AllReadyH.cons rfl (fun K hK => ?_) AllReadyH.nil
                    go_simp
                    go_at_call 17
                    refine Calls.mono (HHX.out _) ?_
                    rintro e z1 ⟨rfl, hB⟩
                    have hN : Below wr.heap.size wr z1 := go_on hH0 hB
                    clear hB
                    go_wp2_with fail
                    refine hK.out _ _ hN (fun hH1 => ?_)
                    clear hN
                    clear hK K
                    refine wpAnyH_take (i := 6) (oi := { dst := some 158, op := Go.Op.move (Go.Operand.tmp 157), type := 4, pos := "law.go:108", after := #[{ on := 5, ground := Go.Ground.data }, { on := 5, ground := Go.Ground.chain }], guard := none }) (v := ?_) rfl (by kernel_rfl) (by kernel_rfl) (by kernel_rfl) (fun _ _ _ h => h) (Or.inl ⟨by rfl, ?_⟩) (by assumption) ?_
                    rotate_left
                    · intro w' hS; go_simp; (try with_reducible rfl)
                    simp only [Act.put, List.setIfInBounds_toArray, List.set_cons_zero, List.set_cons_succ]
                    refine wpAnyH_take (i := 7) (oi := { dst := some 159, op := Go.Op.move (Go.Operand.tmp 9), type := 41, pos := "law.go:108", after := #[{ on := 6, ground := Go.Ground.guard }], guard := some (6, true) }) (v := undef) rfl (by kernel_rfl) (by kernel_rfl) (by kernel_rfl) (fun _ _ _ h => h) (Or.inr ⟨by rfl, rfl⟩) (by assumption) ?_
                    simp only [Act.put, List.setIfInBounds_toArray, List.set_cons_zero, List.set_cons_succ]
                    refine wpAnyH_take (i := 8) (oi := { dst := some 160, op := Go.Op.fieldAddr 26 (Go.Operand.tmp 3) 1, type := 0, pos := "law.go:108", after := #[{ on := 6, ground := Go.Ground.guard }], guard := some (6, true) }) (v := undef) rfl (by kernel_rfl) (by kernel_rfl) (by kernel_rfl) (fun _ _ _ h => h) (Or.inr ⟨by rfl, rfl⟩) (by assumption) ?_
                    simp only [Act.put, List.setIfInBounds_toArray, List.set_cons_zero, List.set_cons_succ]
                    refine wpAnyH_take (i := 9) (oi := { dst := some 161, op := Go.Op.load 23 (Go.Operand.tmp 160), type := 23, pos := "law.go:108", after := #[{ on := 8, ground := Go.Ground.data }, { on := 6, ground := Go.Ground.guard }], guard := some (6, true) }) (v := undef) rfl (by kernel_rfl) (by kernel_rfl) (by kernel_rfl) (fun _ _ _ h => h) (Or.inr ⟨by rfl, rfl⟩) (by assumption) ?_
                    simp only [Act.put, List.setIfInBounds_toArray, List.set_cons_zero, List.set_cons_succ]
                    refine wpAnyH_take (i := 10) (oi := { dst := some 162, op := Go.Op.move (Go.Operand.tmp 22), type := 3, pos := "law.go:108", after := #[{ on := 6, ground := Go.Ground.guard }], guard := some (6, true) }) (v := undef) rfl (by kernel_rfl) (by kernel_rfl) (by kernel_rfl) (fun _ _ _ h => h) (Or.inr ⟨by rfl, rfl⟩) (by assumption) ?_
                    simp only [Act.put, List.setIfInBounds_toArray, List.set_cons_zero, List.set_cons_succ]
                    refine wpAnyH_take (i := 11) (oi := { dst := some 163, op := Go.Op.fieldAddr 26 (Go.Operand.tmp 3) 0, type := 0, pos := "law.go:108", after := #[{ on := 6, ground := Go.Ground.guard }], guard := some (6, true) }) (v := undef) rfl (by kernel_rfl) (by kernel_rfl) (by kernel_rfl) (fun _ _ _ h => h) (Or.inr ⟨by rfl, rfl⟩) (by assumption) ?_
                    simp only [Act.put, List.setIfInBounds_toArray, List.set_cons_zero, List.set_cons_succ]
                    refine wpAnyH_take (i := 12) (oi := { dst := some 164, op := Go.Op.load 3 (Go.Operand.tmp 163), type := 3, pos := "law.go:108", after := #[{ on := 11, ground := Go.Ground.data }, { on := 6, ground := Go.Ground.guard }], guard := some (6, true) }) (v := undef) rfl (by kernel_rfl) (by kernel_rfl) (by kernel_rfl) (fun _ _ _ h => h) (Or.inr ⟨by rfl, rfl⟩) (by assumption) ?_
                    simp only [Act.put, List.setIfInBounds_toArray, List.set_cons_zero, List.set_cons_succ]
                    refine wpAnyH_take (i := 13) (oi := { dst := some 165, op := Go.Op.binOp Go.BinOp.mul 3 (Go.Operand.tmp 162) (Go.Operand.tmp 164) 3, type := 3, pos := "law.go:108", after := #[{ on := 10, ground := Go.Ground.data }, { on := 12, ground := Go.Ground.data }, { on := 6, ground := Go.Ground.guard }], guard := some (6, true) }) (v := undef) rfl (by kernel_rfl) (by kernel_rfl) (by kernel_rfl) (fun _ _ _ h => h) (Or.inr ⟨by rfl, rfl⟩) (by assumption) ?_
                    simp only [Act.put, List.setIfInBounds_toArray, List.set_cons_zero, List.set_cons_succ]
                    refine wpAnyH_take (i := 14) (oi := { dst := some 166, op := Go.Op.move (Go.Operand.tmp 24), type := 3, pos := "law.go:108", after := #[{ on := 6, ground := Go.Ground.guard }], guard := some (6, true) }) (v := undef) rfl (by kernel_rfl) (by kernel_rfl) (by kernel_rfl) (fun _ _ _ h => h) (Or.inr ⟨by rfl, rfl⟩) (by assumption) ?_
                    simp only [Act.put, List.setIfInBounds_toArray, List.set_cons_zero, List.set_cons_succ]
                    refine wpAnyH_take (i := 15) (oi := { dst := some 167, op := Go.Op.binOp Go.BinOp.add 3 (Go.Operand.tmp 165) (Go.Operand.tmp 166) 3, type := 3, pos := "law.go:108", after := #[{ on := 13, ground := Go.Ground.data }, { on := 14, ground := Go.Ground.data }, { on := 6, ground := Go.Ground.guard }], guard := some (6, true) }) (v := undef) rfl (by kernel_rfl) (by kernel_rfl) (by kernel_rfl) (fun _ _ _ h => h) (Or.inr ⟨by rfl, rfl⟩) (by assumption) ?_
                    simp only [Act.put, List.setIfInBounds_toArray, List.set_cons_zero, List.set_cons_succ]
                    refine wpAnyH_take (i := 16) (oi := { dst := some 168, op := Go.Op.indexAddr 23 (Go.Operand.tmp 161) (Go.Operand.tmp 167), type := 0, pos := "law.go:108", after := #[{ on := 9, ground := Go.Ground.data }, { on := 15, ground := Go.Ground.data }, { on := 6, ground := Go.Ground.guard }], guard := some (6, true) }) (v := undef) rfl (by kernel_rfl) (by kernel_rfl) (by kernel_rfl) (fun _ _ _ h => h) (Or.inr ⟨by rfl, rfl⟩) (by assumption) ?_
                    simp only [Act.put, List.setIfInBounds_toArray, List.set_cons_zero, List.set_cons_succ]
                    refine wpAnyH_take (i := 17) (oi := { dst := some 169, op := Go.Op.load 3 (Go.Operand.tmp 168), type := 3, pos := "law.go:108", after := #[{ on := 16, ground := Go.Ground.data }, { on := 6, ground := Go.Ground.guard }], guard := some (6, true) }) (v := undef) rfl (by kernel_rfl) (by kernel_rfl) (by kernel_rfl) (fun _ _ _ h => h) (Or.inr ⟨by rfl, rfl⟩) (by assumption) ?_
                    simp only [Act.put, List.setIfInBounds_toArray, List.set_cons_zero, List.set_cons_succ]
                    refine wpAnyH_take (i := 18) (oi := { dst := some 170, op := Go.Op.indexAddr 41 (Go.Operand.tmp 159) (Go.Operand.tmp 169), type := 0, pos := "law.go:108", after := #[{ on := 7, ground := Go.Ground.data }, { on := 17, ground := Go.Ground.data }, { on := 6, ground := Go.Ground.guard }], guard := some (6, true) }) (v := undef) rfl (by kernel_rfl) (by kernel_rfl) (by kernel_rfl) (fun _ _ _ h => h) (Or.inr ⟨by rfl, rfl⟩) (by assumption) ?_
                    simp only [Act.put, List.setIfInBounds_toArray, List.set_cons_zero, List.set_cons_succ]
                    refine wpAnyH_take (i := 19) (oi := { dst := some 171, op := Go.Op.load 55 (Go.Operand.tmp 170), type := 55, pos := "law.go:108", after := #[{ on := 18, ground := Go.Ground.data }, { on := 6, ground := Go.Ground.guard }], guard := some (6, true) }) (v := undef) rfl (by kernel_rfl) (by kernel_rfl) (by kernel_rfl) (fun _ _ _ h => h) (Or.inr ⟨by rfl, rfl⟩) (by assumption) ?_
                    simp only [Act.put, List.setIfInBounds_toArray, List.set_cons_zero, List.set_cons_succ]
                    refine wpAnyH_take (i := 20) (oi := { dst := some 172, op := Go.Op.fieldAddr 26 (Go.Operand.tmp 3) 1, type := 0, pos := "law.go:108", after := #[{ on := 6, ground := Go.Ground.guard }], guard := some (6, true) }) (v := undef) rfl (by kernel_rfl) (by kernel_rfl) (by kernel_rfl) (fun _ _ _ h => h) (Or.inr ⟨by rfl, rfl⟩) (by assumption) ?_
                    simp only [Act.put, List.setIfInBounds_toArray, List.set_cons_zero, List.set_cons_succ]
                    refine wpAnyH_take (i := 21) (oi := { dst := some 173, op := Go.Op.load 23 (Go.Operand.tmp 172), type := 23, pos := "law.go:108", after := #[{ on := 20, ground := Go.Ground.data }, { on := 6, ground := Go.Ground.guard }], guard := some (6, true) }) (v := undef) rfl (by kernel_rfl) (by kernel_rfl) (by kernel_rfl) (fun _ _ _ h => h) (Or.inr ⟨by rfl, rfl⟩) (by assumption) ?_
                    simp only [Act.put, List.setIfInBounds_toArray, List.set_cons_zero, List.set_cons_succ]
                    refine wpAnyH_take (i := 22) (oi := { dst := some 174, op := Go.Op.move (Go.Operand.tmp 23), type := 3, pos := "law.go:108", after := #[{ on := 6, ground := Go.Ground.guard }], guard := some (6, true) }) (v := undef) rfl (by kernel_rfl) (by kernel_rfl) (by kernel_rfl) (fun _ _ _ h => h) (Or.inr ⟨by rfl, rfl⟩) (by assumption) ?_
                    simp only [Act.put, List.setIfInBounds_toArray, List.set_cons_zero, List.set_cons_succ]
                    refine wpAnyH_take (i := 23) (oi := { dst := some 175, op := Go.Op.fieldAddr 26 (Go.Operand.tmp 3) 0, type := 0, pos := "law.go:108", after := #[{ on := 6, ground := Go.Ground.guard }], guard := some (6, true) }) (v := undef) rfl (by kernel_rfl) (by kernel_rfl) (by kernel_rfl) (fun _ _ _ h => h) (Or.inr ⟨by rfl, rfl⟩) (by assumption) ?_
                    simp only [Act.put, List.setIfInBounds_toArray, List.set_cons_zero, List.set_cons_succ]
                    refine wpAnyH_take (i := 24) (oi := { dst := some 176, op := Go.Op.load 3 (Go.Operand.tmp 175), type := 3, pos := "law.go:108", after := #[{ on := 23, ground := Go.Ground.data }, { on := 6, ground := Go.Ground.guard }], guard := some (6, true) }) (v := undef) rfl (by kernel_rfl) (by kernel_rfl) (by kernel_rfl) (fun _ _ _ h => h) (Or.inr ⟨by rfl, rfl⟩) (by assumption) ?_
                    simp only [Act.put, List.setIfInBounds_toArray, List.set_cons_zero, List.set_cons_succ]
                    refine wpAnyH_take (i := 25) (oi := { dst := some 177, op := Go.Op.binOp Go.BinOp.mul 3 (Go.Operand.tmp 174) (Go.Operand.tmp 176) 3, type := 3, pos := "law.go:108", after := #[{ on := 22, ground := Go.Ground.data }, { on := 24, ground := Go.Ground.data }, { on := 6, ground := Go.Ground.guard }], guard := some (6, true) }) (v := undef) rfl (by kernel_rfl) (by kernel_rfl) (by kernel_rfl) (fun _ _ _ h => h) (Or.inr ⟨by rfl, rfl⟩) (by assumption) ?_
                    simp only [Act.put, List.setIfInBounds_toArray, List.set_cons_zero, List.set_cons_succ]
                    refine wpAnyH_take (i := 26) (oi := { dst := some 178, op := Go.Op.move (Go.Operand.tmp 24), type := 3, pos := "law.go:108", after := #[{ on := 6, ground := Go.Ground.guard }], guard := some (6, true) }) (v := undef) rfl (by kernel_rfl) (by kernel_rfl) (by kernel_rfl) (fun _ _ _ h => h) (Or.inr ⟨by rfl, rfl⟩) (by assumption) ?_
                    simp only [Act.put, List.setIfInBounds_toArray, List.set_cons_zero, List.set_cons_succ]
                    refine wpAnyH_take (i := 27) (oi := { dst := some 179, op := Go.Op.binOp Go.BinOp.add 3 (Go.Operand.tmp 177) (Go.Operand.tmp 178) 3, type := 3, pos := "law.go:108", after := #[{ on := 25, ground := Go.Ground.data }, { on := 26, ground := Go.Ground.data }, { on := 6, ground := Go.Ground.guard }], guard := some (6, true) }) (v := undef) rfl (by kernel_rfl) (by kernel_rfl) (by kernel_rfl) (fun _ _ _ h => h) (Or.inr ⟨by rfl, rfl⟩) (by assumption) ?_
                    simp only [Act.put, List.setIfInBounds_toArray, List.set_cons_zero, List.set_cons_succ]
                    refine wpAnyH_take (i := 28) (oi := { dst := some 180, op := Go.Op.indexAddr 23 (Go.Operand.tmp 173) (Go.Operand.tmp 179), type := 0, pos := "law.go:108", after := #[{ on := 21, ground := Go.Ground.data }, { on := 27, ground := Go.Ground.data }, { on := 6, ground := Go.Ground.guard }], guard := some (6, true) }) (v := undef) rfl (by kernel_rfl) (by kernel_rfl) (by kernel_rfl) (fun _ _ _ h => h) (Or.inr ⟨by rfl, rfl⟩) (by assumption) ?_
                    simp only [Act.put, List.setIfInBounds_toArray, List.set_cons_zero, List.set_cons_succ]
                    refine wpAnyH_take (i := 29) (oi := { dst := some 181, op := Go.Op.load 3 (Go.Operand.tmp 180), type := 3, pos := "law.go:108", after := #[{ on := 28, ground := Go.Ground.data }, { on := 6, ground := Go.Ground.guard }], guard := some (6, true) }) (v := undef) rfl (by kernel_rfl) (by kernel_rfl) (by kernel_rfl) (fun _ _ _ h => h) (Or.inr ⟨by rfl, rfl⟩) (by assumption) ?_
                    simp only [Act.put, List.setIfInBounds_toArray, List.set_cons_zero, List.set_cons_succ]
                    refine wpAnyH_ready (rs := [30]) (by kernel_rfl) (by simp) ?_
                    refine AllReadyH.cons rfl (fun K hK => ?_) AllReadyH.nil
                    go_simp
                    refine hK.out _ _ hH1 (fun hH1 => ?_)
                    clear hK K
                    refine wpAnyH_take (i := 31) (oi := { dst := some 183, op := Go.Op.unOp Go.UnOp.not 4 (Go.Operand.tmp 182), type := 4, pos := "law.go:108", after := #[{ on := 30, ground := Go.Ground.data }, { on := 6, ground := Go.Ground.guard }], guard := some (6, true) }) (v := undef) rfl (by kernel_rfl) (by kernel_rfl) (by kernel_rfl) (fun _ _ _ h => h) (Or.inr ⟨by rfl, rfl⟩) (by assumption) ?_
                    simp only [Act.put, List.setIfInBounds_toArray, List.set_cons_zero, List.set_cons_succ]
                    refine wpAnyH_take (i := 32) (oi := { dst := some 184, op := Go.Op.pick (Go.Operand.tmp 158) (Go.Operand.tmp 183) (Go.Operand.const (Go.Value.bool false)), type := 4, pos := "law.go:108", after := #[{ on := 6, ground := Go.Ground.data }, { on := 31, ground := Go.Ground.data }], guard := none }) (v := ?_) rfl (by kernel_rfl) (by kernel_rfl) (by kernel_rfl) (fun _ _ _ h => h) (Or.inl ⟨by rfl, ?_⟩) (by assumption) ?_
                    rotate_left
                    · intro w' hS; go_simp; (try with_reducible rfl)
                    simp only [Act.put, List.setIfInBounds_toArray, List.set_cons_zero, List.set_cons_succ]
                    refine wpAnyH_done (by kernel_rfl) ?_ _
                    go_wp2_with fail
                    go_roundw
                    case rel => exact ⟨l + 1, by go_num, HLK.out, go_on HC.out hH1⟩
                    case measure => have := HLK.out; simp [Go.RowKit.intOf]; omega
                  · have hlI : ¬ (l : Int) < A.k := by omega
                    have hld : decide ((l : Int) < A.k) = false := decide_eq_false hlI
                    clear hlk hl hks
                    go_wp2_with fail
                    go_roundw
                    case rel => exact ⟨t + 1, by go_num, HT.out, HC.out⟩
                    case measure => have := HT.out; simp [Go.RowKit.intOf]; omega
              | true =>
                cases bvs with
                | false =>
                  go_wp2_with (first | (refine oa_load (ad := ⟨g, s * 8, none⟩) rfl rfl hlx rfl ?_) | (go_at_call 17; refine (HHX.out _).mono ?_; rintro e y1 ⟨rfl, hb⟩; have HC1 : Hid (Below w7.heap.size w7 y1) := go_on HC.out hb; have hk2 := (HR7.out.stay HC1.out).cell 2; have hk3 := (HCA.out y1 hb).1; have hk4 := (HCA.out y1 hb).2; have hk0 : y1.cell? ⟨W.heap.size, 0, none⟩ = some (.int .i64 A.k) := (HR7.out.stay HC1.out).cell 0; clear hb))
                  clear hk0 hk2 hk3 hk4 hlx
                  go_loopw [24] (fun vl wr => ∃ l : Nat, vl = .int .i64 (l : Nat) ∧ l ≤ A.k.toNat ∧ Below w7.heap.size w7 wr) (fun vl _ => A.k.toNat - (Go.RowKit.intOf vl).toNat)
                  case atStart => exact ⟨0, rfl, Nat.zero_le _, HC1.out⟩
                  case round =>
                    clear HC1 HC
                    obtain ⟨l, rfl, hl, hb⟩ := hrel
                    have HC : Hid (Below w7.heap.size w7 wr) := hb
                    have HRY : Hid (RowAt wr W.heap.size #[.int .i64 A.k, .slice an A.nx.length cn, .slice _ A.ac.length ca]) := HR7.out.stay hb
                    have hks := HMon.out.G.ks
                    have hk0 : wr.cell? ⟨W.heap.size, 0, none⟩ = some (.int .i64 A.k) := HRY.out.cell 0
                    clear hb
                    by_cases hlk : l < A.k.toNat
                    · have hlI : (l : Int) < A.k := by omega
                      have hld : decide ((l : Int) < A.k) = true := decide_eq_true hlI
                      have HLK : Hid (l < A.k.toNat) := hlk
                      have hl8 : l < 8 := by omega
                      have HLX : Hid (∀ y, Below wr.heap.size wr y → (loadVar 55 ⟨g, s * 8, none⟩).run Try.prog y = .ok (.agg (cellsF (word X))) y) := fun y hy => HLX0.out y (go_on HC.out hy)
                      have a1 := HMon.out.G.at HS.out hlI
                      have a2 := HMon.out.G.at HT.out hlI
                      have HIN : Hid (Inc A (dN A s l) (dN A t l)) := (HCI.out.1 (by first | rfl | trivial)).step hlk
                      obtain ⟨p1, hp1⟩ : ∃ p, s * A.k.toNat + l = p := ⟨_, rfl⟩
                      obtain ⟨p2, hp2⟩ : ∃ p, t * A.k.toNat + l = p := ⟨_, rfl⟩
                      obtain ⟨m1, hm1⟩ : ∃ p, s * A.k.toNat = p := ⟨_, rfl⟩
                      obtain ⟨m2, hm2⟩ : ∃ p, t * A.k.toNat = p := ⟨_, rfl⟩
                      obtain ⟨d1, hd1⟩ : ∃ p, dN A s l = p := ⟨_, rfl⟩
                      obtain ⟨d2, hd2⟩ : ∃ p, dN A t l = p := ⟨_, rfl⟩
                      rw [hp1, hd1] at a1
                      rw [hp2, hd2] at a2
                      rw [hd1, hd2] at HIN
                      have hxl : A.nx.length ≤ 512 := by
                        have G := HMon.out.G
                        have h64 := HMon.out.n64
                        have h1 : (A.ac.length : Int) * A.k ≤ 64 * 8 := Int.mul_le_mul (by omega) G.k8 (by have := G.k1; omega) (by omega)
                        have := G.len
                        omega
                      have q1 : ((s : Nat) : Int) * A.k = (m1 : Nat) := by rw [← hks.2.2, ← hm1]; push_cast; rfl
                      have q2 : ((t : Nat) : Int) * A.k = (m2 : Nat) := by rw [← hks.2.2, ← hm2]; push_cast; rfl
                      have u1 : IntKind.i64.wrap ((s : Int) * A.k) = (m1 : Nat) := by rw [q1, IntKind.wrap_i64]; omega
                      have u2 : IntKind.i64.wrap ((t : Int) * A.k) = (m2 : Nat) := by rw [q2, IntKind.wrap_i64]; omega
                      have u3 : IntKind.i64.wrap ((m1 : Int) + (l : Int)) = (p1 : Nat) := by rw [IntKind.wrap_i64]; omega
                      have u4 : IntKind.i64.wrap ((m2 : Int) + (l : Int)) = (p2 : Nat) := by rw [IntKind.wrap_i64]; omega
                      have hi1 : (p1 : Int) < A.nx.length := by omega
                      have hi2 : (p2 : Int) < A.nx.length := by omega
                      have hi3 : (d1 : Int) < A.ac.length := by omega
                      obtain ⟨gn, on, en, _, _⟩ := (HNX.out.stay (go_on HB7.out HC.out)).int (i := p1) a1.1
                      subst en
                      have HE1 : Hid (∀ y, Below wr.heap.size wr y → y.cell? ⟨gn, on + p1, none⟩ = some (.int .i64 (d1 : Nat))) := fun y hy => by
                        obtain ⟨_, _, e, _, q⟩ := (HNX.out.stay (go_on HB7.out (go_on HC.out hy))).int (i := p1) a1.1
                        simp only [Option.some.injEq, Addr.mk.injEq, and_true] at e
                        obtain ⟨rfl, rfl⟩ := e
                        rw [a1.2.1] at q
                        exact q
                      have HE2 : Hid (∀ y, Below wr.heap.size wr y → y.cell? ⟨gn, on + p2, none⟩ = some (.int .i64 (d2 : Nat))) := fun y hy => by
                        obtain ⟨_, _, e, _, q⟩ := (HNX.out.stay (go_on HB7.out (go_on HC.out hy))).int (i := p2) a2.1
                        simp only [Option.some.injEq, Addr.mk.injEq, and_true] at e
                        obtain ⟨rfl, rfl⟩ := e
                        rw [a2.2.1] at q
                        exact q
                      obtain ⟨Y, hY⟩ : ∃ Y, L.getD d1 0 = Y := ⟨_, rfl⟩
                      have HLY : Hid (∀ y, Below wr.heap.size wr y → (loadVar 55 ⟨g, d1 * 8, none⟩).run Try.prog y = .ok (.agg (cellsF (word Y))) y) := fun y hy => by
                        have r := HLD.out y d1 (go_on HC.out hy) a1.2.2
                        rwa [hY] at r
                      have hyt : Y.testBit d2 = true := by rw [← hY]; exact (HAV.out.iff d1 d2 a1.2.2 a2.2.2).2 HIN.out
                      have HHY : Hid (∀ y, Calls Try.prog 17 #[.agg (cellsF (word Y)), .int .i64 (d2 : Nat)] y fun e w' => e = .returned (.bool true) ∧ Below y.heap.size y w') := fun y => by
                        have r := HHS.out y Y d2 (by have := HN1.out; have := a2.2.2; omega)
                        rwa [hyt] at r
                      clear a1 a2 hp1 hp2 hm1 hm2 hd1 hd2 hxl q1 q2 hY hyt hlk hl hks
                      go_wp2_with fail
                      clear hk0
                      refine wp_region_held_drew (S := fun y => Below wr.heap.size wr y) (by kernel_rfl) (Below.refl _ _).drew (fun hH0 => ?_)
                      generalize wr.drew = z0 at hH0 ⊢
                      refine wpAnyH_take (i := 0) (oi := { dst := some 152, op := Go.Op.move (Go.Operand.tmp 9), type := 41, pos := "law.go:108", after := #[], guard := none }) (v := ?_) rfl (by kernel_rfl) (by kernel_rfl) (by kernel_rfl) (fun _ _ _ h => h) (Or.inl ⟨by rfl, ?_⟩) (by assumption) ?_
                      rotate_left
                      · intro w' hS; go_simp; (try with_reducible rfl)
                      simp only [Act.put, List.setIfInBounds_toArray, List.set_cons_zero, List.set_cons_succ]
                      refine wpAnyH_take (i := 1) (oi := { dst := some 153, op := Go.Op.move (Go.Operand.tmp 22), type := 3, pos := "law.go:108", after := #[], guard := none }) (v := ?_) rfl (by kernel_rfl) (by kernel_rfl) (by kernel_rfl) (fun _ _ _ h => h) (Or.inl ⟨by rfl, ?_⟩) (by assumption) ?_
                      rotate_left
                      · intro w' hS; go_simp; (try with_reducible rfl)
                      simp only [Act.put, List.setIfInBounds_toArray, List.set_cons_zero, List.set_cons_succ]
                      refine wpAnyH_take (i := 2) (oi := { dst := some 154, op := Go.Op.indexAddr 41 (Go.Operand.tmp 152) (Go.Operand.tmp 153), type := 0, pos := "law.go:108", after := #[{ on := 0, ground := Go.Ground.data }, { on := 1, ground := Go.Ground.data }], guard := none }) (v := ?_) rfl (by kernel_rfl) (by kernel_rfl) (by kernel_rfl) (fun _ _ _ h => h) (Or.inl ⟨by rfl, ?_⟩) (by assumption) ?_
                      rotate_left
                      · intro w' hS; go_simp; (try with_reducible rfl)
                      simp only [Act.put, List.setIfInBounds_toArray, List.set_cons_zero, List.set_cons_succ]
                      refine wpAnyH_take (i := 3) (oi := { dst := some 155, op := Go.Op.load 55 (Go.Operand.tmp 154), type := 55, pos := "law.go:108", after := #[{ on := 2, ground := Go.Ground.data }], guard := none }) (v := .agg (cellsF (word X))) rfl (by kernel_rfl) (by kernel_rfl) (by kernel_rfl) (fun _ _ _ h => h) (Or.inl ⟨by rfl, ?_⟩) (by assumption) ?_
                      · intro w' hS; exact ex_load_at (ad := ⟨g, s * 8, none⟩) rfl rfl (HLX.out w' hS)
                      simp only [Act.put, List.setIfInBounds_toArray, List.set_cons_zero, List.set_cons_succ]
                      refine wpAnyH_take (i := 4) (oi := { dst := some 156, op := Go.Op.move (Go.Operand.tmp 23), type := 3, pos := "law.go:108", after := #[], guard := none }) (v := ?_) rfl (by kernel_rfl) (by kernel_rfl) (by kernel_rfl) (fun _ _ _ h => h) (Or.inl ⟨by rfl, ?_⟩) (by assumption) ?_
                      rotate_left
                      · intro w' hS; go_simp; (try with_reducible rfl)
                      simp only [Act.put, List.setIfInBounds_toArray, List.set_cons_zero, List.set_cons_succ]
                      refine wpAnyH_ready (rs := [5]) (by kernel_rfl) (by simp) ?_
                      refine AllReadyH.cons rfl (fun K hK => ?_) AllReadyH.nil
                      go_simp
                      go_at_call 17
                      refine Calls.mono (HHX.out _) ?_
                      rintro e z1 ⟨rfl, hB⟩
                      have hN : Below wr.heap.size wr z1 := go_on hH0 hB
                      clear hB
                      go_wp2_with fail
                      refine hK.out _ _ hN (fun hH1 => ?_)
                      clear hN
                      clear hK K
                      refine wpAnyH_take (i := 6) (oi := { dst := some 158, op := Go.Op.move (Go.Operand.tmp 157), type := 4, pos := "law.go:108", after := #[{ on := 5, ground := Go.Ground.data }, { on := 5, ground := Go.Ground.chain }], guard := none }) (v := ?_) rfl (by kernel_rfl) (by kernel_rfl) (by kernel_rfl) (fun _ _ _ h => h) (Or.inl ⟨by rfl, ?_⟩) (by assumption) ?_
                      rotate_left
                      · intro w' hS; go_simp; (try with_reducible rfl)
                      simp only [Act.put, List.setIfInBounds_toArray, List.set_cons_zero, List.set_cons_succ]
                      refine wpAnyH_take (i := 7) (oi := { dst := some 159, op := Go.Op.move (Go.Operand.tmp 9), type := 41, pos := "law.go:108", after := #[{ on := 6, ground := Go.Ground.guard }], guard := some (6, true) }) (v := ?_) rfl (by kernel_rfl) (by kernel_rfl) (by kernel_rfl) (fun _ _ _ h => h) (Or.inl ⟨by rfl, ?_⟩) (by assumption) ?_
                      rotate_left
                      · intro w' hS; go_simp; (try with_reducible rfl)
                      simp only [Act.put, List.setIfInBounds_toArray, List.set_cons_zero, List.set_cons_succ]
                      refine wpAnyH_take (i := 8) (oi := { dst := some 160, op := Go.Op.fieldAddr 26 (Go.Operand.tmp 3) 1, type := 0, pos := "law.go:108", after := #[{ on := 6, ground := Go.Ground.guard }], guard := some (6, true) }) (v := ?_) rfl (by kernel_rfl) (by kernel_rfl) (by kernel_rfl) (fun _ _ _ h => h) (Or.inl ⟨by rfl, ?_⟩) (by assumption) ?_
                      rotate_left
                      · intro w' hS; go_simp; (try with_reducible rfl)
                      simp only [Act.put, List.setIfInBounds_toArray, List.set_cons_zero, List.set_cons_succ]
                      refine wpAnyH_take (i := 9) (oi := { dst := some 161, op := Go.Op.load 23 (Go.Operand.tmp 160), type := 23, pos := "law.go:108", after := #[{ on := 8, ground := Go.Ground.data }, { on := 6, ground := Go.Ground.guard }], guard := some (6, true) }) (v := .slice (some ⟨gn, on, none⟩) A.nx.length cn) rfl (by kernel_rfl) (by kernel_rfl) (by kernel_rfl) (fun _ _ _ h => h) (Or.inl ⟨by rfl, ?_⟩) (by assumption) ?_
                      · intro w' hS; have hz := (HRY.out.stay hS).cell 1; go_simp
                      simp only [Act.put, List.setIfInBounds_toArray, List.set_cons_zero, List.set_cons_succ]
                      refine wpAnyH_take (i := 10) (oi := { dst := some 162, op := Go.Op.move (Go.Operand.tmp 22), type := 3, pos := "law.go:108", after := #[{ on := 6, ground := Go.Ground.guard }], guard := some (6, true) }) (v := ?_) rfl (by kernel_rfl) (by kernel_rfl) (by kernel_rfl) (fun _ _ _ h => h) (Or.inl ⟨by rfl, ?_⟩) (by assumption) ?_
                      rotate_left
                      · intro w' hS; go_simp; (try with_reducible rfl)
                      simp only [Act.put, List.setIfInBounds_toArray, List.set_cons_zero, List.set_cons_succ]
                      refine wpAnyH_take (i := 11) (oi := { dst := some 163, op := Go.Op.fieldAddr 26 (Go.Operand.tmp 3) 0, type := 0, pos := "law.go:108", after := #[{ on := 6, ground := Go.Ground.guard }], guard := some (6, true) }) (v := ?_) rfl (by kernel_rfl) (by kernel_rfl) (by kernel_rfl) (fun _ _ _ h => h) (Or.inl ⟨by rfl, ?_⟩) (by assumption) ?_
                      rotate_left
                      · intro w' hS; go_simp; (try with_reducible rfl)
                      simp only [Act.put, List.setIfInBounds_toArray, List.set_cons_zero, List.set_cons_succ]
                      refine wpAnyH_take (i := 12) (oi := { dst := some 164, op := Go.Op.load 3 (Go.Operand.tmp 163), type := 3, pos := "law.go:108", after := #[{ on := 11, ground := Go.Ground.data }, { on := 6, ground := Go.Ground.guard }], guard := some (6, true) }) (v := .int .i64 A.k) rfl (by kernel_rfl) (by kernel_rfl) (by kernel_rfl) (fun _ _ _ h => h) (Or.inl ⟨by rfl, ?_⟩) (by assumption) ?_
                      · intro w' hS; have hz := (HRY.out.stay hS).cell 0; go_simp
                      simp only [Act.put, List.setIfInBounds_toArray, List.set_cons_zero, List.set_cons_succ]
                      refine wpAnyH_take (i := 13) (oi := { dst := some 165, op := Go.Op.binOp Go.BinOp.mul 3 (Go.Operand.tmp 162) (Go.Operand.tmp 164) 3, type := 3, pos := "law.go:108", after := #[{ on := 10, ground := Go.Ground.data }, { on := 12, ground := Go.Ground.data }, { on := 6, ground := Go.Ground.guard }], guard := some (6, true) }) (v := ?_) rfl (by kernel_rfl) (by kernel_rfl) (by kernel_rfl) (fun _ _ _ h => h) (Or.inl ⟨by rfl, ?_⟩) (by assumption) ?_
                      rotate_left
                      · intro w' hS; go_simp; (try with_reducible rfl)
                      simp only [Act.put, List.setIfInBounds_toArray, List.set_cons_zero, List.set_cons_succ]
                      refine wpAnyH_take (i := 14) (oi := { dst := some 166, op := Go.Op.move (Go.Operand.tmp 24), type := 3, pos := "law.go:108", after := #[{ on := 6, ground := Go.Ground.guard }], guard := some (6, true) }) (v := ?_) rfl (by kernel_rfl) (by kernel_rfl) (by kernel_rfl) (fun _ _ _ h => h) (Or.inl ⟨by rfl, ?_⟩) (by assumption) ?_
                      rotate_left
                      · intro w' hS; go_simp; (try with_reducible rfl)
                      simp only [Act.put, List.setIfInBounds_toArray, List.set_cons_zero, List.set_cons_succ]
                      refine wpAnyH_take (i := 15) (oi := { dst := some 167, op := Go.Op.binOp Go.BinOp.add 3 (Go.Operand.tmp 165) (Go.Operand.tmp 166) 3, type := 3, pos := "law.go:108", after := #[{ on := 13, ground := Go.Ground.data }, { on := 14, ground := Go.Ground.data }, { on := 6, ground := Go.Ground.guard }], guard := some (6, true) }) (v := ?_) rfl (by kernel_rfl) (by kernel_rfl) (by kernel_rfl) (fun _ _ _ h => h) (Or.inl ⟨by rfl, ?_⟩) (by assumption) ?_
                      rotate_left
                      · intro w' hS; go_simp; (try with_reducible rfl)
                      simp only [Act.put, List.setIfInBounds_toArray, List.set_cons_zero, List.set_cons_succ]
                      refine wpAnyH_take (i := 16) (oi := { dst := some 168, op := Go.Op.indexAddr 23 (Go.Operand.tmp 161) (Go.Operand.tmp 167), type := 0, pos := "law.go:108", after := #[{ on := 9, ground := Go.Ground.data }, { on := 15, ground := Go.Ground.data }, { on := 6, ground := Go.Ground.guard }], guard := some (6, true) }) (v := ?_) rfl (by kernel_rfl) (by kernel_rfl) (by kernel_rfl) (fun _ _ _ h => h) (Or.inl ⟨by rfl, ?_⟩) (by assumption) ?_
                      rotate_left
                      · intro w' hS; go_simp; (try with_reducible rfl)
                      simp only [Act.put, List.setIfInBounds_toArray, List.set_cons_zero, List.set_cons_succ]
                      refine wpAnyH_take (i := 17) (oi := { dst := some 169, op := Go.Op.load 3 (Go.Operand.tmp 168), type := 3, pos := "law.go:108", after := #[{ on := 16, ground := Go.Ground.data }, { on := 6, ground := Go.Ground.guard }], guard := some (6, true) }) (v := .int .i64 (d1 : Nat)) rfl (by kernel_rfl) (by kernel_rfl) (by kernel_rfl) (fun _ _ _ h => h) (Or.inl ⟨by rfl, ?_⟩) (by assumption) ?_
                      · intro w' hS; have hz := HE1.out w' hS; go_simp
                      simp only [Act.put, List.setIfInBounds_toArray, List.set_cons_zero, List.set_cons_succ]
                      refine wpAnyH_take (i := 18) (oi := { dst := some 170, op := Go.Op.indexAddr 41 (Go.Operand.tmp 159) (Go.Operand.tmp 169), type := 0, pos := "law.go:108", after := #[{ on := 7, ground := Go.Ground.data }, { on := 17, ground := Go.Ground.data }, { on := 6, ground := Go.Ground.guard }], guard := some (6, true) }) (v := ?_) rfl (by kernel_rfl) (by kernel_rfl) (by kernel_rfl) (fun _ _ _ h => h) (Or.inl ⟨by rfl, ?_⟩) (by assumption) ?_
                      rotate_left
                      · intro w' hS; go_simp; (try with_reducible rfl)
                      simp only [Act.put, List.setIfInBounds_toArray, List.set_cons_zero, List.set_cons_succ]
                      refine wpAnyH_take (i := 19) (oi := { dst := some 171, op := Go.Op.load 55 (Go.Operand.tmp 170), type := 55, pos := "law.go:108", after := #[{ on := 18, ground := Go.Ground.data }, { on := 6, ground := Go.Ground.guard }], guard := some (6, true) }) (v := .agg (cellsF (word Y))) rfl (by kernel_rfl) (by kernel_rfl) (by kernel_rfl) (fun _ _ _ h => h) (Or.inl ⟨by rfl, ?_⟩) (by assumption) ?_
                      · intro w' hS; exact ex_load_at (ad := ⟨g, d1 * 8, none⟩) rfl rfl (HLY.out w' hS)
                      simp only [Act.put, List.setIfInBounds_toArray, List.set_cons_zero, List.set_cons_succ]
                      refine wpAnyH_take (i := 20) (oi := { dst := some 172, op := Go.Op.fieldAddr 26 (Go.Operand.tmp 3) 1, type := 0, pos := "law.go:108", after := #[{ on := 6, ground := Go.Ground.guard }], guard := some (6, true) }) (v := ?_) rfl (by kernel_rfl) (by kernel_rfl) (by kernel_rfl) (fun _ _ _ h => h) (Or.inl ⟨by rfl, ?_⟩) (by assumption) ?_
                      rotate_left
                      · intro w' hS; go_simp; (try with_reducible rfl)
                      simp only [Act.put, List.setIfInBounds_toArray, List.set_cons_zero, List.set_cons_succ]
                      refine wpAnyH_take (i := 21) (oi := { dst := some 173, op := Go.Op.load 23 (Go.Operand.tmp 172), type := 23, pos := "law.go:108", after := #[{ on := 20, ground := Go.Ground.data }, { on := 6, ground := Go.Ground.guard }], guard := some (6, true) }) (v := .slice (some ⟨gn, on, none⟩) A.nx.length cn) rfl (by kernel_rfl) (by kernel_rfl) (by kernel_rfl) (fun _ _ _ h => h) (Or.inl ⟨by rfl, ?_⟩) (by assumption) ?_
                      · intro w' hS; have hz := (HRY.out.stay hS).cell 1; go_simp
                      simp only [Act.put, List.setIfInBounds_toArray, List.set_cons_zero, List.set_cons_succ]
                      refine wpAnyH_take (i := 22) (oi := { dst := some 174, op := Go.Op.move (Go.Operand.tmp 23), type := 3, pos := "law.go:108", after := #[{ on := 6, ground := Go.Ground.guard }], guard := some (6, true) }) (v := ?_) rfl (by kernel_rfl) (by kernel_rfl) (by kernel_rfl) (fun _ _ _ h => h) (Or.inl ⟨by rfl, ?_⟩) (by assumption) ?_
                      rotate_left
                      · intro w' hS; go_simp; (try with_reducible rfl)
                      simp only [Act.put, List.setIfInBounds_toArray, List.set_cons_zero, List.set_cons_succ]
                      refine wpAnyH_take (i := 23) (oi := { dst := some 175, op := Go.Op.fieldAddr 26 (Go.Operand.tmp 3) 0, type := 0, pos := "law.go:108", after := #[{ on := 6, ground := Go.Ground.guard }], guard := some (6, true) }) (v := ?_) rfl (by kernel_rfl) (by kernel_rfl) (by kernel_rfl) (fun _ _ _ h => h) (Or.inl ⟨by rfl, ?_⟩) (by assumption) ?_
                      rotate_left
                      · intro w' hS; go_simp; (try with_reducible rfl)
                      simp only [Act.put, List.setIfInBounds_toArray, List.set_cons_zero, List.set_cons_succ]
                      refine wpAnyH_take (i := 24) (oi := { dst := some 176, op := Go.Op.load 3 (Go.Operand.tmp 175), type := 3, pos := "law.go:108", after := #[{ on := 23, ground := Go.Ground.data }, { on := 6, ground := Go.Ground.guard }], guard := some (6, true) }) (v := .int .i64 A.k) rfl (by kernel_rfl) (by kernel_rfl) (by kernel_rfl) (fun _ _ _ h => h) (Or.inl ⟨by rfl, ?_⟩) (by assumption) ?_
                      · intro w' hS; have hz := (HRY.out.stay hS).cell 0; go_simp
                      simp only [Act.put, List.setIfInBounds_toArray, List.set_cons_zero, List.set_cons_succ]
                      refine wpAnyH_take (i := 25) (oi := { dst := some 177, op := Go.Op.binOp Go.BinOp.mul 3 (Go.Operand.tmp 174) (Go.Operand.tmp 176) 3, type := 3, pos := "law.go:108", after := #[{ on := 22, ground := Go.Ground.data }, { on := 24, ground := Go.Ground.data }, { on := 6, ground := Go.Ground.guard }], guard := some (6, true) }) (v := ?_) rfl (by kernel_rfl) (by kernel_rfl) (by kernel_rfl) (fun _ _ _ h => h) (Or.inl ⟨by rfl, ?_⟩) (by assumption) ?_
                      rotate_left
                      · intro w' hS; go_simp; (try with_reducible rfl)
                      simp only [Act.put, List.setIfInBounds_toArray, List.set_cons_zero, List.set_cons_succ]
                      refine wpAnyH_take (i := 26) (oi := { dst := some 178, op := Go.Op.move (Go.Operand.tmp 24), type := 3, pos := "law.go:108", after := #[{ on := 6, ground := Go.Ground.guard }], guard := some (6, true) }) (v := ?_) rfl (by kernel_rfl) (by kernel_rfl) (by kernel_rfl) (fun _ _ _ h => h) (Or.inl ⟨by rfl, ?_⟩) (by assumption) ?_
                      rotate_left
                      · intro w' hS; go_simp; (try with_reducible rfl)
                      simp only [Act.put, List.setIfInBounds_toArray, List.set_cons_zero, List.set_cons_succ]
                      refine wpAnyH_take (i := 27) (oi := { dst := some 179, op := Go.Op.binOp Go.BinOp.add 3 (Go.Operand.tmp 177) (Go.Operand.tmp 178) 3, type := 3, pos := "law.go:108", after := #[{ on := 25, ground := Go.Ground.data }, { on := 26, ground := Go.Ground.data }, { on := 6, ground := Go.Ground.guard }], guard := some (6, true) }) (v := ?_) rfl (by kernel_rfl) (by kernel_rfl) (by kernel_rfl) (fun _ _ _ h => h) (Or.inl ⟨by rfl, ?_⟩) (by assumption) ?_
                      rotate_left
                      · intro w' hS; go_simp; (try with_reducible rfl)
                      simp only [Act.put, List.setIfInBounds_toArray, List.set_cons_zero, List.set_cons_succ]
                      refine wpAnyH_take (i := 28) (oi := { dst := some 180, op := Go.Op.indexAddr 23 (Go.Operand.tmp 173) (Go.Operand.tmp 179), type := 0, pos := "law.go:108", after := #[{ on := 21, ground := Go.Ground.data }, { on := 27, ground := Go.Ground.data }, { on := 6, ground := Go.Ground.guard }], guard := some (6, true) }) (v := ?_) rfl (by kernel_rfl) (by kernel_rfl) (by kernel_rfl) (fun _ _ _ h => h) (Or.inl ⟨by rfl, ?_⟩) (by assumption) ?_
                      rotate_left
                      · intro w' hS; go_simp; (try with_reducible rfl)
                      simp only [Act.put, List.setIfInBounds_toArray, List.set_cons_zero, List.set_cons_succ]
                      refine wpAnyH_take (i := 29) (oi := { dst := some 181, op := Go.Op.load 3 (Go.Operand.tmp 180), type := 3, pos := "law.go:108", after := #[{ on := 28, ground := Go.Ground.data }, { on := 6, ground := Go.Ground.guard }], guard := some (6, true) }) (v := .int .i64 (d2 : Nat)) rfl (by kernel_rfl) (by kernel_rfl) (by kernel_rfl) (fun _ _ _ h => h) (Or.inl ⟨by rfl, ?_⟩) (by assumption) ?_
                      · intro w' hS; have hz := HE2.out w' hS; go_simp
                      simp only [Act.put, List.setIfInBounds_toArray, List.set_cons_zero, List.set_cons_succ]
                      refine wpAnyH_ready (rs := [30]) (by kernel_rfl) (by simp) ?_
                      refine AllReadyH.cons rfl (fun K hK => ?_) AllReadyH.nil
                      go_simp
                      go_at_call 17
                      refine Calls.mono (HHY.out _) ?_
                      rintro e z2 ⟨rfl, hB⟩
                      have hN : Below wr.heap.size wr z2 := go_on hH1 hB
                      clear hB
                      go_wp2_with fail
                      refine hK.out _ _ hN (fun hH2 => ?_)
                      clear hN
                      clear hK K
                      refine wpAnyH_take (i := 31) (oi := { dst := some 183, op := Go.Op.unOp Go.UnOp.not 4 (Go.Operand.tmp 182), type := 4, pos := "law.go:108", after := #[{ on := 30, ground := Go.Ground.data }, { on := 6, ground := Go.Ground.guard }], guard := some (6, true) }) (v := ?_) rfl (by kernel_rfl) (by kernel_rfl) (by kernel_rfl) (fun _ _ _ h => h) (Or.inl ⟨by rfl, ?_⟩) (by assumption) ?_
                      rotate_left
                      · intro w' hS; go_simp; (try with_reducible rfl)
                      simp only [Act.put, List.setIfInBounds_toArray, List.set_cons_zero, List.set_cons_succ]
                      refine wpAnyH_take (i := 32) (oi := { dst := some 184, op := Go.Op.pick (Go.Operand.tmp 158) (Go.Operand.tmp 183) (Go.Operand.const (Go.Value.bool false)), type := 4, pos := "law.go:108", after := #[{ on := 6, ground := Go.Ground.data }, { on := 31, ground := Go.Ground.data }], guard := none }) (v := ?_) rfl (by kernel_rfl) (by kernel_rfl) (by kernel_rfl) (fun _ _ _ h => h) (Or.inl ⟨by rfl, ?_⟩) (by assumption) ?_
                      rotate_left
                      · intro w' hS; go_simp; (try with_reducible rfl)
                      simp only [Act.put, List.setIfInBounds_toArray, List.set_cons_zero, List.set_cons_succ]
                      refine wpAnyH_done (by kernel_rfl) ?_ _
                      go_wp2_with fail
                      go_roundw
                      case rel => exact ⟨l + 1, by go_num, HLK.out, go_on HC.out hH2⟩
                      case measure => have := HLK.out; simp [Go.RowKit.intOf]; omega
                    · have hlI : ¬ (l : Int) < A.k := by omega
                      have hld : decide ((l : Int) < A.k) = false := decide_eq_false hlI
                      clear hlk hl hks
                      go_wp2_with fail
                      go_roundw
                      case rel => exact ⟨t + 1, by go_num, HT.out, HC.out⟩
                      case measure => have := HT.out; simp [Go.RowKit.intOf]; omega
                | true =>
                  obtain rfl : bvt = true := by
                    have q := (HCI.out.1 (by first | rfl | trivial)).eps HAST.out.1
                    rw [← HAST.out.2]; exact q
                  go_wp2_with (first | (refine oa_load (ad := ⟨g, s * 8, none⟩) rfl rfl hlx rfl ?_) | (go_at_call 17; refine (HHX.out _).mono ?_; rintro e y1 ⟨rfl, hb⟩; have HC1 : Hid (Below w7.heap.size w7 y1) := go_on HC.out hb; have hk2 := (HR7.out.stay HC1.out).cell 2; have hk3 := (HCA.out y1 hb).1; have hk4 := (HCA.out y1 hb).2; have hk0 : y1.cell? ⟨W.heap.size, 0, none⟩ = some (.int .i64 A.k) := (HR7.out.stay HC1.out).cell 0; clear hb))
                  clear hk0 hk2 hk3 hk4 hlx
                  go_loopw [24] (fun vl wr => ∃ l : Nat, vl = .int .i64 (l : Nat) ∧ l ≤ A.k.toNat ∧ Below w7.heap.size w7 wr) (fun vl _ => A.k.toNat - (Go.RowKit.intOf vl).toNat)
                  case atStart => exact ⟨0, rfl, Nat.zero_le _, HC1.out⟩
                  case round =>
                    clear HC1 HC
                    obtain ⟨l, rfl, hl, hb⟩ := hrel
                    have HC : Hid (Below w7.heap.size w7 wr) := hb
                    have HRY : Hid (RowAt wr W.heap.size #[.int .i64 A.k, .slice an A.nx.length cn, .slice _ A.ac.length ca]) := HR7.out.stay hb
                    have hks := HMon.out.G.ks
                    have hk0 : wr.cell? ⟨W.heap.size, 0, none⟩ = some (.int .i64 A.k) := HRY.out.cell 0
                    clear hb
                    by_cases hlk : l < A.k.toNat
                    · have hlI : (l : Int) < A.k := by omega
                      have hld : decide ((l : Int) < A.k) = true := decide_eq_true hlI
                      have HLK : Hid (l < A.k.toNat) := hlk
                      have hl8 : l < 8 := by omega
                      have HLX : Hid (∀ y, Below wr.heap.size wr y → (loadVar 55 ⟨g, s * 8, none⟩).run Try.prog y = .ok (.agg (cellsF (word X))) y) := fun y hy => HLX0.out y (go_on HC.out hy)
                      have a1 := HMon.out.G.at HS.out hlI
                      have a2 := HMon.out.G.at HT.out hlI
                      have HIN : Hid (Inc A (dN A s l) (dN A t l)) := (HCI.out.1 (by first | rfl | trivial)).step hlk
                      obtain ⟨p1, hp1⟩ : ∃ p, s * A.k.toNat + l = p := ⟨_, rfl⟩
                      obtain ⟨p2, hp2⟩ : ∃ p, t * A.k.toNat + l = p := ⟨_, rfl⟩
                      obtain ⟨m1, hm1⟩ : ∃ p, s * A.k.toNat = p := ⟨_, rfl⟩
                      obtain ⟨m2, hm2⟩ : ∃ p, t * A.k.toNat = p := ⟨_, rfl⟩
                      obtain ⟨d1, hd1⟩ : ∃ p, dN A s l = p := ⟨_, rfl⟩
                      obtain ⟨d2, hd2⟩ : ∃ p, dN A t l = p := ⟨_, rfl⟩
                      rw [hp1, hd1] at a1
                      rw [hp2, hd2] at a2
                      rw [hd1, hd2] at HIN
                      have hxl : A.nx.length ≤ 512 := by
                        have G := HMon.out.G
                        have h64 := HMon.out.n64
                        have h1 : (A.ac.length : Int) * A.k ≤ 64 * 8 := Int.mul_le_mul (by omega) G.k8 (by have := G.k1; omega) (by omega)
                        have := G.len
                        omega
                      have q1 : ((s : Nat) : Int) * A.k = (m1 : Nat) := by rw [← hks.2.2, ← hm1]; push_cast; rfl
                      have q2 : ((t : Nat) : Int) * A.k = (m2 : Nat) := by rw [← hks.2.2, ← hm2]; push_cast; rfl
                      have u1 : IntKind.i64.wrap ((s : Int) * A.k) = (m1 : Nat) := by rw [q1, IntKind.wrap_i64]; omega
                      have u2 : IntKind.i64.wrap ((t : Int) * A.k) = (m2 : Nat) := by rw [q2, IntKind.wrap_i64]; omega
                      have u3 : IntKind.i64.wrap ((m1 : Int) + (l : Int)) = (p1 : Nat) := by rw [IntKind.wrap_i64]; omega
                      have u4 : IntKind.i64.wrap ((m2 : Int) + (l : Int)) = (p2 : Nat) := by rw [IntKind.wrap_i64]; omega
                      have hi1 : (p1 : Int) < A.nx.length := by omega
                      have hi2 : (p2 : Int) < A.nx.length := by omega
                      have hi3 : (d1 : Int) < A.ac.length := by omega
                      obtain ⟨gn, on, en, _, _⟩ := (HNX.out.stay (go_on HB7.out HC.out)).int (i := p1) a1.1
                      subst en
                      have HE1 : Hid (∀ y, Below wr.heap.size wr y → y.cell? ⟨gn, on + p1, none⟩ = some (.int .i64 (d1 : Nat))) := fun y hy => by
                        obtain ⟨_, _, e, _, q⟩ := (HNX.out.stay (go_on HB7.out (go_on HC.out hy))).int (i := p1) a1.1
                        simp only [Option.some.injEq, Addr.mk.injEq, and_true] at e
                        obtain ⟨rfl, rfl⟩ := e
                        rw [a1.2.1] at q
                        exact q
                      have HE2 : Hid (∀ y, Below wr.heap.size wr y → y.cell? ⟨gn, on + p2, none⟩ = some (.int .i64 (d2 : Nat))) := fun y hy => by
                        obtain ⟨_, _, e, _, q⟩ := (HNX.out.stay (go_on HB7.out (go_on HC.out hy))).int (i := p2) a2.1
                        simp only [Option.some.injEq, Addr.mk.injEq, and_true] at e
                        obtain ⟨rfl, rfl⟩ := e
                        rw [a2.2.1] at q
                        exact q
                      obtain ⟨Y, hY⟩ : ∃ Y, L.getD d1 0 = Y := ⟨_, rfl⟩
                      have HLY : Hid (∀ y, Below wr.heap.size wr y → (loadVar 55 ⟨g, d1 * 8, none⟩).run Try.prog y = .ok (.agg (cellsF (word Y))) y) := fun y hy => by
                        have r := HLD.out y d1 (go_on HC.out hy) a1.2.2
                        rwa [hY] at r
                      have hyt : Y.testBit d2 = true := by rw [← hY]; exact (HAV.out.iff d1 d2 a1.2.2 a2.2.2).2 HIN.out
                      have HHY : Hid (∀ y, Calls Try.prog 17 #[.agg (cellsF (word Y)), .int .i64 (d2 : Nat)] y fun e w' => e = .returned (.bool true) ∧ Below y.heap.size y w') := fun y => by
                        have r := HHS.out y Y d2 (by have := HN1.out; have := a2.2.2; omega)
                        rwa [hyt] at r
                      clear a1 a2 hp1 hp2 hm1 hm2 hd1 hd2 hxl q1 q2 hY hyt hlk hl hks
                      go_wp2_with fail
                      clear hk0
                      refine wp_region_held_drew (S := fun y => Below wr.heap.size wr y) (by kernel_rfl) (Below.refl _ _).drew (fun hH0 => ?_)
                      generalize wr.drew = z0 at hH0 ⊢
                      refine wpAnyH_take (i := 0) (oi := { dst := some 152, op := Go.Op.move (Go.Operand.tmp 9), type := 41, pos := "law.go:108", after := #[], guard := none }) (v := ?_) rfl (by kernel_rfl) (by kernel_rfl) (by kernel_rfl) (fun _ _ _ h => h) (Or.inl ⟨by rfl, ?_⟩) (by assumption) ?_
                      rotate_left
                      · intro w' hS; go_simp; (try with_reducible rfl)
                      simp only [Act.put, List.setIfInBounds_toArray, List.set_cons_zero, List.set_cons_succ]
                      refine wpAnyH_take (i := 1) (oi := { dst := some 153, op := Go.Op.move (Go.Operand.tmp 22), type := 3, pos := "law.go:108", after := #[], guard := none }) (v := ?_) rfl (by kernel_rfl) (by kernel_rfl) (by kernel_rfl) (fun _ _ _ h => h) (Or.inl ⟨by rfl, ?_⟩) (by assumption) ?_
                      rotate_left
                      · intro w' hS; go_simp; (try with_reducible rfl)
                      simp only [Act.put, List.setIfInBounds_toArray, List.set_cons_zero, List.set_cons_succ]
                      refine wpAnyH_take (i := 2) (oi := { dst := some 154, op := Go.Op.indexAddr 41 (Go.Operand.tmp 152) (Go.Operand.tmp 153), type := 0, pos := "law.go:108", after := #[{ on := 0, ground := Go.Ground.data }, { on := 1, ground := Go.Ground.data }], guard := none }) (v := ?_) rfl (by kernel_rfl) (by kernel_rfl) (by kernel_rfl) (fun _ _ _ h => h) (Or.inl ⟨by rfl, ?_⟩) (by assumption) ?_
                      rotate_left
                      · intro w' hS; go_simp; (try with_reducible rfl)
                      simp only [Act.put, List.setIfInBounds_toArray, List.set_cons_zero, List.set_cons_succ]
                      refine wpAnyH_take (i := 3) (oi := { dst := some 155, op := Go.Op.load 55 (Go.Operand.tmp 154), type := 55, pos := "law.go:108", after := #[{ on := 2, ground := Go.Ground.data }], guard := none }) (v := .agg (cellsF (word X))) rfl (by kernel_rfl) (by kernel_rfl) (by kernel_rfl) (fun _ _ _ h => h) (Or.inl ⟨by rfl, ?_⟩) (by assumption) ?_
                      · intro w' hS; exact ex_load_at (ad := ⟨g, s * 8, none⟩) rfl rfl (HLX.out w' hS)
                      simp only [Act.put, List.setIfInBounds_toArray, List.set_cons_zero, List.set_cons_succ]
                      refine wpAnyH_take (i := 4) (oi := { dst := some 156, op := Go.Op.move (Go.Operand.tmp 23), type := 3, pos := "law.go:108", after := #[], guard := none }) (v := ?_) rfl (by kernel_rfl) (by kernel_rfl) (by kernel_rfl) (fun _ _ _ h => h) (Or.inl ⟨by rfl, ?_⟩) (by assumption) ?_
                      rotate_left
                      · intro w' hS; go_simp; (try with_reducible rfl)
                      simp only [Act.put, List.setIfInBounds_toArray, List.set_cons_zero, List.set_cons_succ]
                      refine wpAnyH_ready (rs := [5]) (by kernel_rfl) (by simp) ?_
                      refine AllReadyH.cons rfl (fun K hK => ?_) AllReadyH.nil
                      go_simp
                      go_at_call 17
                      refine Calls.mono (HHX.out _) ?_
                      rintro e z1 ⟨rfl, hB⟩
                      have hN : Below wr.heap.size wr z1 := go_on hH0 hB
                      clear hB
                      go_wp2_with fail
                      refine hK.out _ _ hN (fun hH1 => ?_)
                      clear hN
                      clear hK K
                      refine wpAnyH_take (i := 6) (oi := { dst := some 158, op := Go.Op.move (Go.Operand.tmp 157), type := 4, pos := "law.go:108", after := #[{ on := 5, ground := Go.Ground.data }, { on := 5, ground := Go.Ground.chain }], guard := none }) (v := ?_) rfl (by kernel_rfl) (by kernel_rfl) (by kernel_rfl) (fun _ _ _ h => h) (Or.inl ⟨by rfl, ?_⟩) (by assumption) ?_
                      rotate_left
                      · intro w' hS; go_simp; (try with_reducible rfl)
                      simp only [Act.put, List.setIfInBounds_toArray, List.set_cons_zero, List.set_cons_succ]
                      refine wpAnyH_take (i := 7) (oi := { dst := some 159, op := Go.Op.move (Go.Operand.tmp 9), type := 41, pos := "law.go:108", after := #[{ on := 6, ground := Go.Ground.guard }], guard := some (6, true) }) (v := ?_) rfl (by kernel_rfl) (by kernel_rfl) (by kernel_rfl) (fun _ _ _ h => h) (Or.inl ⟨by rfl, ?_⟩) (by assumption) ?_
                      rotate_left
                      · intro w' hS; go_simp; (try with_reducible rfl)
                      simp only [Act.put, List.setIfInBounds_toArray, List.set_cons_zero, List.set_cons_succ]
                      refine wpAnyH_take (i := 8) (oi := { dst := some 160, op := Go.Op.fieldAddr 26 (Go.Operand.tmp 3) 1, type := 0, pos := "law.go:108", after := #[{ on := 6, ground := Go.Ground.guard }], guard := some (6, true) }) (v := ?_) rfl (by kernel_rfl) (by kernel_rfl) (by kernel_rfl) (fun _ _ _ h => h) (Or.inl ⟨by rfl, ?_⟩) (by assumption) ?_
                      rotate_left
                      · intro w' hS; go_simp; (try with_reducible rfl)
                      simp only [Act.put, List.setIfInBounds_toArray, List.set_cons_zero, List.set_cons_succ]
                      refine wpAnyH_take (i := 9) (oi := { dst := some 161, op := Go.Op.load 23 (Go.Operand.tmp 160), type := 23, pos := "law.go:108", after := #[{ on := 8, ground := Go.Ground.data }, { on := 6, ground := Go.Ground.guard }], guard := some (6, true) }) (v := .slice (some ⟨gn, on, none⟩) A.nx.length cn) rfl (by kernel_rfl) (by kernel_rfl) (by kernel_rfl) (fun _ _ _ h => h) (Or.inl ⟨by rfl, ?_⟩) (by assumption) ?_
                      · intro w' hS; have hz := (HRY.out.stay hS).cell 1; go_simp
                      simp only [Act.put, List.setIfInBounds_toArray, List.set_cons_zero, List.set_cons_succ]
                      refine wpAnyH_take (i := 10) (oi := { dst := some 162, op := Go.Op.move (Go.Operand.tmp 22), type := 3, pos := "law.go:108", after := #[{ on := 6, ground := Go.Ground.guard }], guard := some (6, true) }) (v := ?_) rfl (by kernel_rfl) (by kernel_rfl) (by kernel_rfl) (fun _ _ _ h => h) (Or.inl ⟨by rfl, ?_⟩) (by assumption) ?_
                      rotate_left
                      · intro w' hS; go_simp; (try with_reducible rfl)
                      simp only [Act.put, List.setIfInBounds_toArray, List.set_cons_zero, List.set_cons_succ]
                      refine wpAnyH_take (i := 11) (oi := { dst := some 163, op := Go.Op.fieldAddr 26 (Go.Operand.tmp 3) 0, type := 0, pos := "law.go:108", after := #[{ on := 6, ground := Go.Ground.guard }], guard := some (6, true) }) (v := ?_) rfl (by kernel_rfl) (by kernel_rfl) (by kernel_rfl) (fun _ _ _ h => h) (Or.inl ⟨by rfl, ?_⟩) (by assumption) ?_
                      rotate_left
                      · intro w' hS; go_simp; (try with_reducible rfl)
                      simp only [Act.put, List.setIfInBounds_toArray, List.set_cons_zero, List.set_cons_succ]
                      refine wpAnyH_take (i := 12) (oi := { dst := some 164, op := Go.Op.load 3 (Go.Operand.tmp 163), type := 3, pos := "law.go:108", after := #[{ on := 11, ground := Go.Ground.data }, { on := 6, ground := Go.Ground.guard }], guard := some (6, true) }) (v := .int .i64 A.k) rfl (by kernel_rfl) (by kernel_rfl) (by kernel_rfl) (fun _ _ _ h => h) (Or.inl ⟨by rfl, ?_⟩) (by assumption) ?_
                      · intro w' hS; have hz := (HRY.out.stay hS).cell 0; go_simp
                      simp only [Act.put, List.setIfInBounds_toArray, List.set_cons_zero, List.set_cons_succ]
                      refine wpAnyH_take (i := 13) (oi := { dst := some 165, op := Go.Op.binOp Go.BinOp.mul 3 (Go.Operand.tmp 162) (Go.Operand.tmp 164) 3, type := 3, pos := "law.go:108", after := #[{ on := 10, ground := Go.Ground.data }, { on := 12, ground := Go.Ground.data }, { on := 6, ground := Go.Ground.guard }], guard := some (6, true) }) (v := ?_) rfl (by kernel_rfl) (by kernel_rfl) (by kernel_rfl) (fun _ _ _ h => h) (Or.inl ⟨by rfl, ?_⟩) (by assumption) ?_
                      rotate_left
                      · intro w' hS; go_simp; (try with_reducible rfl)
                      simp only [Act.put, List.setIfInBounds_toArray, List.set_cons_zero, List.set_cons_succ]
                      refine wpAnyH_take (i := 14) (oi := { dst := some 166, op := Go.Op.move (Go.Operand.tmp 24), type := 3, pos := "law.go:108", after := #[{ on := 6, ground := Go.Ground.guard }], guard := some (6, true) }) (v := ?_) rfl (by kernel_rfl) (by kernel_rfl) (by kernel_rfl) (fun _ _ _ h => h) (Or.inl ⟨by rfl, ?_⟩) (by assumption) ?_
                      rotate_left
                      · intro w' hS; go_simp; (try with_reducible rfl)
                      simp only [Act.put, List.setIfInBounds_toArray, List.set_cons_zero, List.set_cons_succ]
                      refine wpAnyH_take (i := 15) (oi := { dst := some 167, op := Go.Op.binOp Go.BinOp.add 3 (Go.Operand.tmp 165) (Go.Operand.tmp 166) 3, type := 3, pos := "law.go:108", after := #[{ on := 13, ground := Go.Ground.data }, { on := 14, ground := Go.Ground.data }, { on := 6, ground := Go.Ground.guard }], guard := some (6, true) }) (v := ?_) rfl (by kernel_rfl) (by kernel_rfl) (by kernel_rfl) (fun _ _ _ h => h) (Or.inl ⟨by rfl, ?_⟩) (by assumption) ?_
                      rotate_left
                      · intro w' hS; go_simp; (try with_reducible rfl)
                      simp only [Act.put, List.setIfInBounds_toArray, List.set_cons_zero, List.set_cons_succ]
                      refine wpAnyH_take (i := 16) (oi := { dst := some 168, op := Go.Op.indexAddr 23 (Go.Operand.tmp 161) (Go.Operand.tmp 167), type := 0, pos := "law.go:108", after := #[{ on := 9, ground := Go.Ground.data }, { on := 15, ground := Go.Ground.data }, { on := 6, ground := Go.Ground.guard }], guard := some (6, true) }) (v := ?_) rfl (by kernel_rfl) (by kernel_rfl) (by kernel_rfl) (fun _ _ _ h => h) (Or.inl ⟨by rfl, ?_⟩) (by assumption) ?_
                      rotate_left
                      · intro w' hS; go_simp; (try with_reducible rfl)
                      simp only [Act.put, List.setIfInBounds_toArray, List.set_cons_zero, List.set_cons_succ]
                      refine wpAnyH_take (i := 17) (oi := { dst := some 169, op := Go.Op.load 3 (Go.Operand.tmp 168), type := 3, pos := "law.go:108", after := #[{ on := 16, ground := Go.Ground.data }, { on := 6, ground := Go.Ground.guard }], guard := some (6, true) }) (v := .int .i64 (d1 : Nat)) rfl (by kernel_rfl) (by kernel_rfl) (by kernel_rfl) (fun _ _ _ h => h) (Or.inl ⟨by rfl, ?_⟩) (by assumption) ?_
                      · intro w' hS; have hz := HE1.out w' hS; go_simp
                      simp only [Act.put, List.setIfInBounds_toArray, List.set_cons_zero, List.set_cons_succ]
                      refine wpAnyH_take (i := 18) (oi := { dst := some 170, op := Go.Op.indexAddr 41 (Go.Operand.tmp 159) (Go.Operand.tmp 169), type := 0, pos := "law.go:108", after := #[{ on := 7, ground := Go.Ground.data }, { on := 17, ground := Go.Ground.data }, { on := 6, ground := Go.Ground.guard }], guard := some (6, true) }) (v := ?_) rfl (by kernel_rfl) (by kernel_rfl) (by kernel_rfl) (fun _ _ _ h => h) (Or.inl ⟨by rfl, ?_⟩) (by assumption) ?_
                      rotate_left
                      · intro w' hS; go_simp; (try with_reducible rfl)
                      simp only [Act.put, List.setIfInBounds_toArray, List.set_cons_zero, List.set_cons_succ]
                      refine wpAnyH_take (i := 19) (oi := { dst := some 171, op := Go.Op.load 55 (Go.Operand.tmp 170), type := 55, pos := "law.go:108", after := #[{ on := 18, ground := Go.Ground.data }, { on := 6, ground := Go.Ground.guard }], guard := some (6, true) }) (v := .agg (cellsF (word Y))) rfl (by kernel_rfl) (by kernel_rfl) (by kernel_rfl) (fun _ _ _ h => h) (Or.inl ⟨by rfl, ?_⟩) (by assumption) ?_
                      · intro w' hS; exact ex_load_at (ad := ⟨g, d1 * 8, none⟩) rfl rfl (HLY.out w' hS)
                      simp only [Act.put, List.setIfInBounds_toArray, List.set_cons_zero, List.set_cons_succ]
                      refine wpAnyH_take (i := 20) (oi := { dst := some 172, op := Go.Op.fieldAddr 26 (Go.Operand.tmp 3) 1, type := 0, pos := "law.go:108", after := #[{ on := 6, ground := Go.Ground.guard }], guard := some (6, true) }) (v := ?_) rfl (by kernel_rfl) (by kernel_rfl) (by kernel_rfl) (fun _ _ _ h => h) (Or.inl ⟨by rfl, ?_⟩) (by assumption) ?_
                      rotate_left
                      · intro w' hS; go_simp; (try with_reducible rfl)
                      simp only [Act.put, List.setIfInBounds_toArray, List.set_cons_zero, List.set_cons_succ]
                      refine wpAnyH_take (i := 21) (oi := { dst := some 173, op := Go.Op.load 23 (Go.Operand.tmp 172), type := 23, pos := "law.go:108", after := #[{ on := 20, ground := Go.Ground.data }, { on := 6, ground := Go.Ground.guard }], guard := some (6, true) }) (v := .slice (some ⟨gn, on, none⟩) A.nx.length cn) rfl (by kernel_rfl) (by kernel_rfl) (by kernel_rfl) (fun _ _ _ h => h) (Or.inl ⟨by rfl, ?_⟩) (by assumption) ?_
                      · intro w' hS; have hz := (HRY.out.stay hS).cell 1; go_simp
                      simp only [Act.put, List.setIfInBounds_toArray, List.set_cons_zero, List.set_cons_succ]
                      refine wpAnyH_take (i := 22) (oi := { dst := some 174, op := Go.Op.move (Go.Operand.tmp 23), type := 3, pos := "law.go:108", after := #[{ on := 6, ground := Go.Ground.guard }], guard := some (6, true) }) (v := ?_) rfl (by kernel_rfl) (by kernel_rfl) (by kernel_rfl) (fun _ _ _ h => h) (Or.inl ⟨by rfl, ?_⟩) (by assumption) ?_
                      rotate_left
                      · intro w' hS; go_simp; (try with_reducible rfl)
                      simp only [Act.put, List.setIfInBounds_toArray, List.set_cons_zero, List.set_cons_succ]
                      refine wpAnyH_take (i := 23) (oi := { dst := some 175, op := Go.Op.fieldAddr 26 (Go.Operand.tmp 3) 0, type := 0, pos := "law.go:108", after := #[{ on := 6, ground := Go.Ground.guard }], guard := some (6, true) }) (v := ?_) rfl (by kernel_rfl) (by kernel_rfl) (by kernel_rfl) (fun _ _ _ h => h) (Or.inl ⟨by rfl, ?_⟩) (by assumption) ?_
                      rotate_left
                      · intro w' hS; go_simp; (try with_reducible rfl)
                      simp only [Act.put, List.setIfInBounds_toArray, List.set_cons_zero, List.set_cons_succ]
                      refine wpAnyH_take (i := 24) (oi := { dst := some 176, op := Go.Op.load 3 (Go.Operand.tmp 175), type := 3, pos := "law.go:108", after := #[{ on := 23, ground := Go.Ground.data }, { on := 6, ground := Go.Ground.guard }], guard := some (6, true) }) (v := .int .i64 A.k) rfl (by kernel_rfl) (by kernel_rfl) (by kernel_rfl) (fun _ _ _ h => h) (Or.inl ⟨by rfl, ?_⟩) (by assumption) ?_
                      · intro w' hS; have hz := (HRY.out.stay hS).cell 0; go_simp
                      simp only [Act.put, List.setIfInBounds_toArray, List.set_cons_zero, List.set_cons_succ]
                      refine wpAnyH_take (i := 25) (oi := { dst := some 177, op := Go.Op.binOp Go.BinOp.mul 3 (Go.Operand.tmp 174) (Go.Operand.tmp 176) 3, type := 3, pos := "law.go:108", after := #[{ on := 22, ground := Go.Ground.data }, { on := 24, ground := Go.Ground.data }, { on := 6, ground := Go.Ground.guard }], guard := some (6, true) }) (v := ?_) rfl (by kernel_rfl) (by kernel_rfl) (by kernel_rfl) (fun _ _ _ h => h) (Or.inl ⟨by rfl, ?_⟩) (by assumption) ?_
                      rotate_left
                      · intro w' hS; go_simp; (try with_reducible rfl)
                      simp only [Act.put, List.setIfInBounds_toArray, List.set_cons_zero, List.set_cons_succ]
                      refine wpAnyH_take (i := 26) (oi := { dst := some 178, op := Go.Op.move (Go.Operand.tmp 24), type := 3, pos := "law.go:108", after := #[{ on := 6, ground := Go.Ground.guard }], guard := some (6, true) }) (v := ?_) rfl (by kernel_rfl) (by kernel_rfl) (by kernel_rfl) (fun _ _ _ h => h) (Or.inl ⟨by rfl, ?_⟩) (by assumption) ?_
                      rotate_left
                      · intro w' hS; go_simp; (try with_reducible rfl)
                      simp only [Act.put, List.setIfInBounds_toArray, List.set_cons_zero, List.set_cons_succ]
                      refine wpAnyH_take (i := 27) (oi := { dst := some 179, op := Go.Op.binOp Go.BinOp.add 3 (Go.Operand.tmp 177) (Go.Operand.tmp 178) 3, type := 3, pos := "law.go:108", after := #[{ on := 25, ground := Go.Ground.data }, { on := 26, ground := Go.Ground.data }, { on := 6, ground := Go.Ground.guard }], guard := some (6, true) }) (v := ?_) rfl (by kernel_rfl) (by kernel_rfl) (by kernel_rfl) (fun _ _ _ h => h) (Or.inl ⟨by rfl, ?_⟩) (by assumption) ?_
                      rotate_left
                      · intro w' hS; go_simp; (try with_reducible rfl)
                      simp only [Act.put, List.setIfInBounds_toArray, List.set_cons_zero, List.set_cons_succ]
                      refine wpAnyH_take (i := 28) (oi := { dst := some 180, op := Go.Op.indexAddr 23 (Go.Operand.tmp 173) (Go.Operand.tmp 179), type := 0, pos := "law.go:108", after := #[{ on := 21, ground := Go.Ground.data }, { on := 27, ground := Go.Ground.data }, { on := 6, ground := Go.Ground.guard }], guard := some (6, true) }) (v := ?_) rfl (by kernel_rfl) (by kernel_rfl) (by kernel_rfl) (fun _ _ _ h => h) (Or.inl ⟨by rfl, ?_⟩) (by assumption) ?_
                      rotate_left
                      · intro w' hS; go_simp; (try with_reducible rfl)
                      simp only [Act.put, List.setIfInBounds_toArray, List.set_cons_zero, List.set_cons_succ]
                      refine wpAnyH_take (i := 29) (oi := { dst := some 181, op := Go.Op.load 3 (Go.Operand.tmp 180), type := 3, pos := "law.go:108", after := #[{ on := 28, ground := Go.Ground.data }, { on := 6, ground := Go.Ground.guard }], guard := some (6, true) }) (v := .int .i64 (d2 : Nat)) rfl (by kernel_rfl) (by kernel_rfl) (by kernel_rfl) (fun _ _ _ h => h) (Or.inl ⟨by rfl, ?_⟩) (by assumption) ?_
                      · intro w' hS; have hz := HE2.out w' hS; go_simp
                      simp only [Act.put, List.setIfInBounds_toArray, List.set_cons_zero, List.set_cons_succ]
                      refine wpAnyH_ready (rs := [30]) (by kernel_rfl) (by simp) ?_
                      refine AllReadyH.cons rfl (fun K hK => ?_) AllReadyH.nil
                      go_simp
                      go_at_call 17
                      refine Calls.mono (HHY.out _) ?_
                      rintro e z2 ⟨rfl, hB⟩
                      have hN : Below wr.heap.size wr z2 := go_on hH1 hB
                      clear hB
                      go_wp2_with fail
                      refine hK.out _ _ hN (fun hH2 => ?_)
                      clear hN
                      clear hK K
                      refine wpAnyH_take (i := 31) (oi := { dst := some 183, op := Go.Op.unOp Go.UnOp.not 4 (Go.Operand.tmp 182), type := 4, pos := "law.go:108", after := #[{ on := 30, ground := Go.Ground.data }, { on := 6, ground := Go.Ground.guard }], guard := some (6, true) }) (v := ?_) rfl (by kernel_rfl) (by kernel_rfl) (by kernel_rfl) (fun _ _ _ h => h) (Or.inl ⟨by rfl, ?_⟩) (by assumption) ?_
                      rotate_left
                      · intro w' hS; go_simp; (try with_reducible rfl)
                      simp only [Act.put, List.setIfInBounds_toArray, List.set_cons_zero, List.set_cons_succ]
                      refine wpAnyH_take (i := 32) (oi := { dst := some 184, op := Go.Op.pick (Go.Operand.tmp 158) (Go.Operand.tmp 183) (Go.Operand.const (Go.Value.bool false)), type := 4, pos := "law.go:108", after := #[{ on := 6, ground := Go.Ground.data }, { on := 31, ground := Go.Ground.data }], guard := none }) (v := ?_) rfl (by kernel_rfl) (by kernel_rfl) (by kernel_rfl) (fun _ _ _ h => h) (Or.inl ⟨by rfl, ?_⟩) (by assumption) ?_
                      rotate_left
                      · intro w' hS; go_simp; (try with_reducible rfl)
                      simp only [Act.put, List.setIfInBounds_toArray, List.set_cons_zero, List.set_cons_succ]
                      refine wpAnyH_done (by kernel_rfl) ?_ _
                      go_wp2_with fail
                      go_roundw
                      case rel => exact ⟨l + 1, by go_num, HLK.out, go_on HC.out hH2⟩
                      case measure => have := HLK.out; simp [Go.RowKit.intOf]; omega
                    · have hlI : ¬ (l : Int) < A.k := by omega
                      have hld : decide ((l : Int) < A.k) = false := decide_eq_false hlI
                      clear hlk hl hks
                      go_wp2_with fail
                      go_roundw
                      case rel => exact ⟨t + 1, by go_num, HT.out, HC.out⟩
                      case measure => have := HT.out; simp [Go.RowKit.intOf]; omega
            · have htI : ¬ (t : Int) < A.ac.length := by omega
              have htd : decide ((t : Int) < A.ac.length) = false := decide_eq_false htI
              clear hlt ht hn1
              go_wp2_with fail
              go_roundw
              case rel => exact ⟨s + 1, by go_num, HS.out, HC.out⟩
              case measure => have := HS.out; simp [Go.RowKit.intOf]; omega
        · have hsI : ¬ (s : Int) < A.ac.length := by omega
          have hsd : decide ((s : Int) < A.ac.length) = false := decide_eq_false hsI
          have hbb : (b == b) = true := by cases b <;> rfl
          clear hlt hs hn1
          go_wp2_with (go_at_call 8; refine (live18_any _).mono ?_; rintro e wv ⟨rfl, hb⟩; have HBV : Hid (Below W.heap.size W wv) := go_on (go_on HB7.out HC.out) hb; clear hb)
          go_ret
          exact ⟨rfl, HBV.out⟩


/-! ### The row's step -/
theorem own : ownKnob Try.prog.godebug = none := by kernel_rfl
set_option maxRecDepth 100000 in
theorem lifted (os : Os) (started : os.Started) (H : Type) (enc : TypeId × Value → H) :
    ReturnsInHanded {} Try.checked os 4 .any (Rows.orderStatesSpec.pre6 enc Try.prog Try.f4 Rows.orderStatesRow.domain false) (Rows.orderStatesSpec.post enc Try.prog Try.f4 false true false false) := by
  refine returnsInHanded_of_change_sized (C := Try.checked) own started (by kernel_rfl) Try.func4
    (ChangeSpec.witness6 (enc := enc) (C := Try.checked) false ⟨#[], #[.agg #[.int .i64 0, .slice none 0 0, .slice none 0 0], .int .i64 0, .int .i64 0], []⟩ 8 (by kernel_rfl) (by kernel_rfl) (by kernel_rfl) (by kernel_rfl)) ?_
  intro W base args ds gs before hval0 hW hcnd hsz0 _
  have hval : ∀ (j : Nat) t v, Try.f4.params[j]? = some t → args[j]? = some v → Value.okWide Try.prog W .any base t v := hval0
  clear hval0
  have hsz : (DataW.weightsEach Try.prog (Try.f4.params.toList ++ Rows.orderStatesSpec.plain.varTypes Try.prog) (ds ++ gs)).all (· ≤ reachBytes) = true := hsz0
  clear hsz0
  have hW' := hW
  obtain ⟨p, q, hA0, hV, rfl, hfz, hnd⟩ := hW
  have hA : DataW.TrodAll enc Try.prog W 0 (fun _ => true) true Try.f4.params.toList args.toList ds p := hA0
  rw [Try.params4] at hA hval hsz
  obtain ⟨v0, vs0, d0, ds0, p0, q0, hargs, rfl, rfl, h0, r0⟩ := trodAll_cons hA
  obtain ⟨v1, vs1, d1, ds1, p1, q1, rfl, rfl, rfl, h1, r1⟩ := trodAll_cons r0
  obtain ⟨v2, vs2, d2, ds2, p2, q2, rfl, rfl, rfl, h2, r2⟩ := trodAll_cons r1
  obtain ⟨rfl, rfl, rfl⟩ := trodAll_nil r2
  obtain rfl : args = #[v0, v1, v2] := by cases args; simp_all
  obtain ⟨rfl, rfl⟩ := trodVars_none hV
  obtain ⟨a0, x0, n0, w0, dk0, dn0, da0, e0, y0, z0⟩ := open_auto (hval 0 26 v0 rfl rfl) h0
  have b0 := auto_bounds hsz (j := 0) rfl (by rw [e0]; rfl) y0 z0
  have g0 : ∀ x ∈ p0, x.block < W.heap.size := fun x hx => hW'.lt x (by simp [hx])
  obtain ⟨a1, rfl, rfl, rfl, w1⟩ := open_int Try.underlying3 (hval 1 3 v1 rfl rfl) h1
  obtain ⟨a2, rfl, rfl, rfl, w2⟩ := open_int Try.underlying3 (hval 2 3 v2 rfl rfl) h2
  clear hA0
  refine (walk v0 a0 a1 a2 W x0 n0 b0.1 b0.2 (i64_of w1) (i64_of w2)).mono fun e W' ⟨he, bel⟩ => ?_
  subst he
  exact ⟨_, rfl, _, _, _, [], _, [], hW', trodAll_mk1 (shut_bool Try.underlying4 _), (trodAll_cons_mk (Below.trod Try.laidOut (by kernel_rfl) (of_decide_eq_true (by kernel_rfl)) h0 bel g0) (trodAll_cons_mk (shut_int Try.underlying3 w1) (trodAll_cons_mk (shut_int Try.underlying3 w2) trodAll_mk0))), rfl, bel.frame _, fun h => by cases h⟩

theorem over : Rows.orderStatesRow.holds Try.pinned (OpenSpec.ofChange Rows.orderStatesSpec) :=
  OpenClaim.holds_of_wide 4 Try.f4 rfl rfl rfl rfl rfl rfl rfl ⟨rfl, rfl, rfl, rfl, rfl⟩ rfl rfl rfl rfl rfl (by kernel_rfl) Try.func4 (by kernel_rfl)
    (of_decide_eq_true (by kernel_rfl)) (by unfold Func.isWrapper; first | (rw [if_pos (by decide +kernel)]; kernel_rfl) | (rw [if_neg (by decide +kernel)]; exact ⟨rfl, rfl⟩))
    (fun os started H enc _ => lifted os started H enc)

end Go.Proofs.Ytneiegbodnalbaa.orderStates
namespace Go.Proofs.Ytneiegbodnalbaa
/-- The given statement. -/
theorem orderStates_holds : Rows.OrderStatesSaid := orderStates.over
end Go.Proofs.Ytneiegbodnalbaa
