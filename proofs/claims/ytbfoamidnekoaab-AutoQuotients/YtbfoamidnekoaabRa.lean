/- The document's Ahead. -/
import Derived.Test.YtbfoamidnekoaabQz
namespace Go.Proofs.Ytbfoamidnekoaab
open Go Go.RowKit Go.Lib Go.Maps
set_option linter.unusedVariables false

def tnL (A : Aut) (s p : Nat) : List Int := (List.range p).map fun p => ((trn s (dN A (trn s (p / A.k.toNat)) (p % A.k.toNat)) : Nat) : Int)
def taL (A : Aut) (s i : Nat) : List Bool := (List.range i).map fun i => aN A (trn s i)
theorem tnL_len (A : Aut) (s p : Nat) : (tnL A s p).length = p := by simp [tnL]
theorem taL_len (A : Aut) (s p : Nat) : (taL A s p).length = p := by simp [taL]
theorem tnL_step (A : Aut) (s i c : Nat) (hc : c < A.k.toNat) : tnL A s (i * A.k.toNat + c) ++ [((trn s (dN A (trn s i) c) : Nat) : Int)] = tnL A s (i * A.k.toNat + c + 1) := by
  have h2 : (i * A.k.toNat + c) / A.k.toNat = i := by rw [Nat.mul_comm, Nat.mul_add_div (by omega), Nat.div_eq_of_lt hc]; rfl
  have h3 : (i * A.k.toNat + c) % A.k.toNat = c := by rw [Nat.mul_comm, Nat.mul_add_mod, Nat.mod_eq_of_lt hc]
  unfold tnL
  rw [List.range_succ, List.map_append]
  simp [h2, h3]
theorem taL_step (A : Aut) (s i : Nat) : taL A s i ++ [aN A (trn s i)] = taL A s (i + 1) := by
  unfold taL
  rw [List.range_succ, List.map_append]
  rfl

set_option maxHeartbeats 8000000 in
set_option maxRecDepth 100000 in
theorem rahead_any (v : Value) (A : Aut) (w : World) (h : AR w v A) (hm : A.nx.length ≤ 9223372036854775806) (hm2 : A.ac.length ≤ 9223372036854775806) (b : ByteArray) (hz : b.size ≤ maxLen) :
    Calls Try.prog 7 #[v, .string b] w (FQ (ahA A b) (cwE A b) w) := by
  obtain ⟨an, cn, aa, ca, e, k1, k2⟩ := h.is
  obtain ⟨i0, hi, hz0, hz1, hz2⟩ := info_parts Try.info_int
  obtain ⟨i1, hj, hq0, hq1, hq2⟩ := info_parts Try.info_bool
  have HAR : Hid (∀ w', Below w.heap.size w w' → AR w' v A) := fun w' hb => h.stay hb
  have K1 : Hid (∀ y, Below w.heap.size w y → SR y an (zC A.nx)) := fun y hy => k1.stay hy
  have K2 : Hid (∀ y, Below w.heap.size w y → SR y aa (bC A.ac)) := fun y hy => k2.stay hy
  clear h k1 k2
  subst e
  obtain ⟨V, hV⟩ : ∃ V, V = w.alloc (.cells #[.int .i64 A.k, .slice an A.nx.length cn, .slice aa A.ac.length ca] 25) := ⟨_, rfl⟩
  obtain ⟨W, hW⟩ : ∃ W, W = V.alloc (.cells #[.int .i64 0, .slice none 0 0, .slice none 0 0] 25) := ⟨_, rfl⟩
  have hVs : V.heap.size = w.heap.size + 1 := by rw [hV]; simp
  have HVS : Hid (V.heap.size = w.heap.size + 1) := hVs
  have HRV : Hid (RowAt V w.heap.size #[.int .i64 A.k, .slice an A.nx.length cn, .slice aa A.ac.length ca]) := by show RowAt _ _ _; rw [hV]; exact RowAt.last _ _ _
  have HBV : Hid (Below w.heap.size w V) := by show Below _ _ _; rw [hV]; exact below_new _ _
  have HBW : Hid (Below V.heap.size V W) := by show Below _ _ _; rw [hW]; exact below_new _ _
  have HRES : Hid (W.heap[V.heap.size]? = some (.cells #[.int .i64 0, .slice none 0 0, .slice none 0 0] 25 (0, 0))) := by show W.heap[V.heap.size]? = _; rw [hW]; exact heap_alloc_last _ _
  have HWE : Hid (W = (w.alloc (.cells #[.int .i64 A.k, .slice an A.nx.length cn, .slice aa A.ac.length ca] 25)).alloc (.cells #[.int .i64 0, .slice none 0 0, .slice none 0 0] 25)) := by rw [← hV]; exact hW
  clear hV hW hVs
  go_enter Try.func7, Try.ntmps7
  go_wp2_with fail
  rw [← HWE.out, ← HVS.out]
  refine (rrun_any _ A _ (HAR.out _ (go_on HBV.out HBW.out)) hm hm2 0 b hz).mono ?_
  rintro e w1 ⟨rfl, hb1⟩
  rw [cwE_run]
  have hres1 : w1.heap[V.heap.size]? = some (.cells #[.int .i64 0, .slice none 0 0, .slice none 0 0] 25 (0, 0)) := (hb1.block _ (Array.getElem?_eq_some_iff.1 HRES.out).1).trans HRES.out
  have HB1 : Hid (Below V.heap.size V w1) := go_on HBW.out hb1
  have HR1 : Hid (w1.heap[V.heap.size]? = some (.cells #[.int .i64 0, .slice none 0 0, .slice none 0 0] 25 (0, 0))) := hres1
  have hlt1 : V.heap.size < w1.heap.size := (Array.getElem?_eq_some_iff.1 hres1).1
  have cs := (HRV.out.stay HB1.out).cell
  clear hb1
  obtain ⟨E, hE⟩ : ∃ E, cwE A b = E := ⟨_, rfl⟩
  have HE : Hid (cwE A b = E) := hE
  by_cases e0 : E = 0
  · have hv : runV A 0 b = goN A 0 (lets b) := by unfold runV; rw [if_pos (by rw [cwE_run, hE, e0])]; rfl
    rw [hE, hv]
    subst e0
    obtain ⟨G, L⟩ := cwE_good HE.out
    have hlt := goN_lt G (s := 0) (by have := G.n1; omega) (lets b) L.lt_all
    obtain ⟨s, hs⟩ : ∃ s, goN A 0 (lets b) = s := ⟨_, rfl⟩
    rw [hs] at hlt ⊢
    have HA0 : Hid (ahA A b = reA (tA A s)) := by show _ = _; rw [tA_re G hlt]; unfold ahA; rw [if_pos HE.out, hs]
    have HG : Hid (Good A) := G
    have HGT : Hid (Good (tA A s)) := tA_good G hlt
    have HSL : Hid (s < A.ac.length) := hlt
    obtain ⟨K, hK⟩ : ∃ K : Nat, A.k.toNat = K := ⟨_, rfl⟩
    have hKI : A.k = (K : Int) := by have := G.kn; omega
    have HKK : Hid (A.k = (K : Int) ∧ 1 ≤ K ∧ K ≤ 8 ∧ A.k.toNat = K) := ⟨hKI, by have := G.kn; omega, by have := G.kn; omega, hK⟩
    have hn2 := G.n2
    have hn0 : 0 < A.nx.length := by have := (G.at (s := 0) (c := 0) (by have := G.n1; omega) (by have := G.k1; omega)).1; omega
    obtain ⟨gn, on, rfl, _, _⟩ := (K1.out _ (Below.refl _ _)).int hn0
    obtain ⟨ga, oa, rfl, _, _⟩ := (K2.out _ (Below.refl _ _)).bool (i := 0) (by have := G.n1; omega)
    have CN : Hid (∀ y i, Below w.heap.size w y → i < A.nx.length → y.cell? ⟨gn, on + i, none⟩ = some (.int .i64 (A.nx.getD i 0))) := fun y i hy hi => by
      obtain ⟨g', o', e', _, hc'⟩ := (K1.out y hy).int hi
      simp only [Option.some.injEq, Addr.mk.injEq] at e'
      obtain ⟨rfl, rfl, _⟩ := e'
      exact hc'
    have CA : Hid (∀ y i, Below w.heap.size w y → i < A.ac.length → y.cell? ⟨ga, oa + i, none⟩ = some (.bool (A.ac.getD i false))) := fun y i hy hi => by
      obtain ⟨g', o', e', _, hc'⟩ := (K2.out y hy).bool hi
      simp only [Option.some.injEq, Addr.mk.injEq] at e'
      obtain ⟨rfl, rfl, _⟩ := e'
      exact hc'
    have HO0 : Hid (BA V V.heap.size w1.heap.size A.k (tnL A s (0 * K)) (taL A s 0) (.slice none 0 0) (.slice none 0 0) (w1.alloc (.cells #[.int .i64 A.k, .slice none 0 0, .slice none 0 0] 25))) := by
      refine ⟨((below_new _ _).block _ hlt1).trans HR1.out, heap_alloc_last _ _, ?_, World.ownsRow_nil _ _ _ _, go_on HB1.out (below_new _ _), by omega, by omega⟩
      rw [Nat.zero_mul]
      exact World.ownsRow_nil _ _ _ _
    have csn : ∀ O o, (w1.alloc O).cell? ⟨w.heap.size, o, none⟩ = (#[.int .i64 A.k, .slice (some ⟨gn, on, none⟩) A.nx.length cn, .slice (some ⟨ga, oa, none⟩) A.ac.length ca] : Array Value)[o]? := fun O => ((HRV.out.stay HB1.out).alloc O).cell
    clear hn0 G L hs hlt hres1 hv hE hK hKI
    go_wp2_with fail
    clear csn cs
    go_loopw [9] (fun vi wr => ∃ (i : Nat) (vn va : Value), vi = .int .i64 i ∧ i ≤ A.ac.length ∧ BA V V.heap.size w1.heap.size A.k (tnL A s (i * K)) (taL A s i) vn va wr) (fun vi _ => A.ac.length - (intOf vi).toNat)
    case atStart => exact ⟨0, _, _, rfl, Nat.zero_le _, HO0.out⟩
    case round =>
      clear HO0
      obtain ⟨i, vn, va, rfl, hiN, hO⟩ := hrel
      have HOs : Hid (BA V V.heap.size w1.heap.size A.k (tnL A s (i * K)) (taL A s i) vn va wr) := hO
      have cs := (HRV.out.stay hO.below).cell
      clear hO
      by_cases hlt : i < A.ac.length
      · have hltI : (i : Int) < A.ac.length := by omega
        obtain ⟨f, hf⟩ : ∃ f, trn s i = f := ⟨_, rfl⟩
        have hfl : f < A.ac.length := by rw [← hf]; exact trn_lt HSL.out hlt
        have hfI : (f : Int) < A.ac.length := by omega
        have HF : Hid (trn s i = f) := hf
        go_wp2_with fail
        refine (turned8_any i s _).mono ?_
        rintro e yy ⟨rfl, hyy⟩
        subst yy
        rw [hf]
        clear hf
        go_wp2_with fail
        clear cs
        go_loopw [11] (fun vc wr => ∃ (c : Nat) (vn va : Value), vc = .int .i64 c ∧ c ≤ K ∧ BA V V.heap.size w1.heap.size A.k (tnL A s (i * K + c)) (taL A s i) vn va wr) (fun vc _ => K - (intOf vc).toNat)
        case atStart => exact ⟨0, _, _, rfl, Nat.zero_le _, HOs.out⟩
        case round =>
          clear HOs
          obtain ⟨c, vn, va, rfl, hcK, hO⟩ := hrel
          have cs := (HRV.out.stay hO.below).cell
          by_cases hc : c < K
          · have hcI : (c : Int) < A.k := by have := HKK.out.1; omega
            have hc8 : c < 8 := by have := HKK.out.2.2.1; omega
            obtain ⟨g1, g2, g3⟩ := HG.out.at hfl hcI
            rw [HKK.out.2.2.2] at g1 g2
            have hcell := CN.out wr _ (go_on HBV.out hO.below) g1
            rw [g2] at hcell
            obtain ⟨D, hD⟩ : ∃ D, dN A f c = D := ⟨_, rfl⟩
            rw [hD] at hcell g3
            have hst := tnL_step A s i c (by rw [HKK.out.2.2.2]; exact hc)
            rw [HKK.out.2.2.2, HF.out, hD] at hst
            obtain ⟨T, hT⟩ : ∃ T, trn s D = T := ⟨_, rfl⟩
            have HTT : Hid (trn s D = T) := hT
            rw [hT] at hst
            have hp : (f : Int) * A.k = ((f * K : Nat) : Int) := by rw [Int.natCast_mul, HKK.out.1]
            have hq : f * K ≤ 4095 * 8 := Nat.mul_le_mul (by omega) HKK.out.2.2.1
            obtain ⟨p, hpp⟩ : ∃ p, f * K = p := ⟨_, rfl⟩
            rw [hpp] at hp hq hcell g1
            have hw1 : IntKind.i64.wrap ((f : Int) * A.k) = (p : Int) := by rw [hp, IntKind.wrap_i64]; omega
            obtain ⟨q, hqq⟩ : ∃ q, p + c = q := ⟨_, rfl⟩
            have hw2 : IntKind.i64.wrap ((p : Int) + c) = (q : Int) := by have := HKK.out.2.2.1; rw [IntKind.wrap_i64]; omega
            have hgl : (q : Int) < A.nx.length := by omega
            rw [hqq] at hcell
            obtain ⟨z, hz⟩ : ∃ z, i * K + c = z := ⟨_, rfl⟩
            rw [hz] at hO hst
            obtain ⟨na, nc, rfl⟩ := own_shape hO.nxt
            have HO : Hid (BA V V.heap.size w1.heap.size A.k (tnL A s z) (taL A s i) (.slice na (tnL A s z).length nc) va wr) := hO
            have ho1 : wr.cell? ⟨w1.heap.size, 1, none⟩ = some (.slice na (tnL A s z).length nc) := cell_of hO.out
            have HQ : Hid (i * K + (c + 1) = z + 1) := by show _ = _; omega
            have hzb : (tnL A s z).length ≤ 32768 := by
              rw [tnL_len]
              have h1 := Nat.mul_le_mul (show i + 1 ≤ 4096 by omega) HKK.out.2.2.1
              rw [Nat.add_mul] at h1
              omega
            have HST : Hid (tnL A s z ++ [(T : Int)] = tnL A s (z + 1)) := hst
            clear hO hst hz hD hp hq hpp hqq g1 g2 hT
            go_wp2_with fail
            refine (turned8_any D s _).mono ?_
            rintro e yy ⟨rfl, hyy⟩
            subst yy
            rw [HTT.out]
            go_wp2_with (at_builtin; refine wpList_append_own _ rfl _ _ 22 rfl V.heap.size 3 i0 (.int .i64 0) 1 8 Try.underlying22 hi hz0 hz1 hz2 rfl (by decide) _ _ _ rfl (HO.out.nxt.alloc _) ⟨wr.heap.size, 0, none⟩ 1 1 [.int .i64 (T : Int)] rfl rfl (cell_one_new _ _ _) (by intro u hu; simp at hu; subst hu; rfl) (by unfold maxLen; omega) (by omega) (by have := HO.out.below.size; simp; omega) ?_; intro v' w4 hown' hgrow _; obtain ⟨va', vc', rfl⟩ := own_shape hown'; have hout4 := HO.out.outN HO.out.nxt (by decide) hgrow; have hcs : w4.cell? ⟨w1.heap.size, 1, none⟩ = some (.slice na (tnL A s z).length nc) := cell_of hout4; have hfz : w4.frozen? ⟨w1.heap.size, 1, none⟩ = false := froz_of hout4; have hO5 := HO.out.nxtd hgrow hown'; rw [HST.out] at hO5; have HO5 : Hid _ := hO5; clear hO5 hown' hgrow hout4 ho1)
            go_roundw
            case rel => exact ⟨c + 1, _, va, by go_num, by omega, by rw [HQ.out]; exact HO5.out⟩
            case measure => simp [intOf]; omega
          · have hcI : ¬ (c : Int) < A.k := by have := HKK.out.1; omega
            have hcE : c = K := by omega
            obtain ⟨za, zc, rfl⟩ := own_shape hO.acp
            have HO : Hid (BA V V.heap.size w1.heap.size A.k (tnL A s (i * K + c)) (taL A s i) vn (.slice za (taL A s i).length zc) wr) := hO
            have ho2 : wr.drew.cell? ⟨w1.heap.size, 2, none⟩ = some (.slice za (taL A s i).length zc) := cell_of hO.out
            have csd : ∀ o, wr.drew.cell? ⟨w.heap.size, o, none⟩ = (#[.int .i64 A.k, .slice (some ⟨gn, on, none⟩) A.nx.length cn, .slice (some ⟨ga, oa, none⟩) A.ac.length ca] : Array Value)[o]? := cs
            have hcell := CA.out wr f (go_on HBV.out hO.below) hfl
            obtain ⟨x, hx⟩ : ∃ x, A.ac.getD f false = x := ⟨_, rfl⟩
            rw [hx] at hcell
            have hcd : wr.drew.cell? ⟨ga, oa + f, none⟩ = some (.bool x) := hcell
            have HQ : Hid ((i + 1) * K = i * K + c) := by show _ = _; rw [Nat.add_mul, hcE]; omega
            have hal : (taL A s i).length ≤ 4096 := by rw [taL_len]; omega
            have HAC : Hid (taL A s i ++ [x] = taL A s (i + 1)) := by show _ = _; rw [← taL_step, HF.out]; rw [← hx]; rfl
            have ho2a : ∀ O, (wr.alloc O).drew.cell? ⟨w1.heap.size, 2, none⟩ = some (.slice za (taL A s i).length zc) := fun O => by have := below_cell (o := 2) (below_new wr O) (Array.getElem?_eq_some_iff.1 hO.out).1; exact this.trans ho2
            have csa : ∀ O o, (wr.alloc O).drew.cell? ⟨w.heap.size, o, none⟩ = (#[.int .i64 A.k, .slice (some ⟨gn, on, none⟩) A.nx.length cn, .slice (some ⟨ga, oa, none⟩) A.ac.length ca] : Array Value)[o]? := fun O o => ((HRV.out.stay hO.below).alloc O).cell o
            clear hO hcE hx hcell
            have HOD : Hid (BA V V.heap.size w1.heap.size A.k (tnL A s (i * K + c)) (taL A s i) vn (.slice za (taL A s i).length zc) wr.drew) := HO.out.call (Below.refl _ _).drew
            have KS : Hid (∀ O, (wr.alloc O).drew.ownsRow V.heap.size 4 1 (.slice za (taL A s i).length zc) (taL A s i).length (bC (taL A s i))) := fun O => HO.out.acp.alloc O
            have KN : Hid (∀ (j : Nat) (u : Value), [Value.bool x][j]? = some u → (wr.alloc (.cells #[.bool x] 4)).drew.cell? ((⟨wr.heap.size, 0, none⟩ : Addr).add j) = some u) := cell_one_new wr (.bool x) 4
            go_wp2_with fail
            go_region_law (rw [if_pos (by rfl)]; refine wp_append_own _ _ _ 23 rfl V.heap.size 4 i1 (.bool false) 1 1 Try.underlying23 hj hq0 hq1 hq2 rfl (by decide) _ _ _ rfl (KS.out _) ⟨wr.heap.size, 0, none⟩ 1 1 [.bool x] rfl rfl KN.out (by intro u hu; simp at hu; subst hu; rfl) (by unfold maxLen; omega) (by omega) (by have := HO.out.below.size; simp; omega) ?_; intro v' w4 hown' hgrow _; obtain ⟨va', vc', rfl⟩ := own_shape hown'; have hgr : (wr.drew.alloc (.cells #[.bool x] 4)).grownBy w4 _ := hgrow; have hout4 := HOD.out.outN HOD.out.acp (by decide) hgr; have hcs : w4.cell? ⟨w1.heap.size, 2, none⟩ = some (.slice za (taL A s i).length zc) := cell_of hout4; have hfz : w4.frozen? ⟨w1.heap.size, 2, none⟩ = false := froz_of hout4; have hO5 := HOD.out.acpd hgr hown'; rw [HAC.out] at hO5; have HO5 : Hid _ := hO5; clear hO5 hown' hgrow hgr hout4)
            all_goals (
              go_wp2_with fail
              go_roundw
              case rel => exact ⟨i + 1, vn, _, by go_num, by omega, by rw [HQ.out]; exact HO5.out⟩
              case measure => simp [intOf]; omega)
      · have hltI : ¬ (i : Int) < A.ac.length := by omega
        have hiE : i = A.ac.length := by omega
        obtain ⟨na, nc, hvn⟩ := own_shape HOs.out.nxt
        obtain ⟨za, zc, hva⟩ := own_shape HOs.out.acp
        subst hvn hva
        have ho0 : wr.cell? ⟨w1.heap.size, 0, none⟩ = some (.int .i64 A.k) := cell_of HOs.out.out
        have ho1 : wr.cell? ⟨w1.heap.size, 1, none⟩ = some (.slice na (tnL A s (i * K)).length nc) := cell_of HOs.out.out
        have ho2 : wr.cell? ⟨w1.heap.size, 2, none⟩ = some (.slice za (taL A s i).length zc) := cell_of HOs.out.out
        have HAU : Hid ((⟨A.k, tnL A s (i * K), taL A s i⟩ : Aut) = tA A s) := by
          show _ = _
          rw [hiE, ← HKK.out.2.2.2]; rfl
        have HRE : Hid (Calls Try.prog 25 #[.agg #[.int .i64 A.k, .slice na (tnL A s (i * K)).length nc, .slice za (taL A s i).length zc]] wr (FQ (ahA A b) 0 wr)) := by
          have h1 := HOs.out.ar
          rw [HAU.out] at h1
          have lT := HGT.out
          have h3 : ((tA A s).ac.length : Int) * (tA A s).k ≤ 4096 * 8 := Int.mul_le_mul (by have := lT.n2; omega) lT.k8 (by have := lT.k1; omega) (by omega)
          have h2 := rreach_any _ _ _ h1 (by have := lT.len; omega) (by have := lT.n2; omega)
          rw [← HA0.out, chkA_ok lT] at h2
          exact h2
        have HRS : Hid (wr.heap[V.heap.size]? = some (.cells #[.int .i64 0, .slice none 0 0, .slice none 0 0] 25 (0, 0))) := HOs.out.res
        have HBQ : Hid (Below w.heap.size w wr) := go_on HBV.out HOs.out.below
        clear hiE
        go_wp2_with fail
        refine HRE.out.mono ?_
        rintro e w3 ⟨v', rfl, hao, hb3⟩
        have hres3 := (hb3.block _ (Array.getElem?_eq_some_iff.1 HRS.out).1).trans HRS.out
        obtain ⟨rn, rcn, ra, rca, rfl, o1, o2⟩ := hao
        obtain ⟨B, hB⟩ : ∃ B, ahA A b = B := ⟨_, rfl⟩
        rw [hB] at o1 o2 ⊢
        have HBE : Hid (ahA A b = B) := hB
        obtain ⟨f1, f2, f3⟩ := res_done (B := B) (base := w.heap.size) (w0 := w) (x0 := .int .i64 B.k) (x1 := .slice rn B.nx.length rcn) (x2 := .slice ra B.ac.length rca) hres3 ⟨rn, rcn, ra, rca, rfl, own_mono o1 HBQ.out.size, own_mono o2 HBQ.out.size⟩ (go_on HBQ.out hb3) (by have := HVS.out; omega)
        have hp0 : w3.cell? ⟨V.heap.size, 0, none⟩ = some (.int .i64 0) := cell_of hres3
        have hp1 : w3.cell? ⟨V.heap.size, 1, none⟩ = some (.slice none 0 0) := cell_of hres3
        have hp2 : w3.cell? ⟨V.heap.size, 2, none⟩ = some (.slice none 0 0) := cell_of hres3
        have hpf : ∀ j, w3.frozen? ⟨V.heap.size, j, none⟩ = false := fun j => froz_of hres3
        have F1 : Hid _ := f1
        have F2 : Hid _ := f2
        have F3 : Hid _ := f3
        clear o1 o2 hb3 hres3 f1 f2 f3 hB ho0 ho1 ho2
        go_wp2_with fail
        refine bodyPost_ret (results_auto rfl rfl F1.out rfl) rfl ⟨.agg #[.int .i64 B.k, .slice rn B.nx.length rcn, .slice ra B.ac.length rca], ?_, ?_, F3.out⟩
        · rw [HE.out]; rfl
        · rw [HBE.out]; exact F2.out
  · have HA0 : Hid (ahA A b = zAut) := by show _ = _; unfold ahA; rw [if_neg (by rw [HE.out]; exact e0)]
    rw [hE]
    obtain ⟨X, hX⟩ : ∃ X, runV A 0 b = X := ⟨_, rfl⟩
    rw [hX]
    have hr0 : w1.cell? ⟨V.heap.size, 0, none⟩ = some (.int .i64 0) := cell_of hres1
    have hr1 : w1.cell? ⟨V.heap.size, 1, none⟩ = some (.slice none 0 0) := cell_of hres1
    have hr2 : w1.cell? ⟨V.heap.size, 2, none⟩ = some (.slice none 0 0) := cell_of hres1
    have hf : ∀ j, w1.frozen? ⟨V.heap.size, j, none⟩ = false := fun j => froz_of hres1
    obtain ⟨f1, f2, f3⟩ := res_done (B := zAut) (base := w.heap.size) (w0 := w) hres1 (AO.zero _ _) (go_on HBV.out HB1.out) (by have := HVS.out; omega)
    have F1 : Hid _ := f1
    have F2 : Hid _ := f2
    have F3 : Hid _ := f3
    have hd0 : decide (E = 0) = false := decide_eq_false e0
    clear hres1 f1 f2 f3 hE hX
    go_wp2_with fail
    refine bodyPost_ret (results_auto rfl rfl F1.out rfl) rfl ⟨.agg #[.int .i64 0, .slice none 0 0, .slice none 0 0], ?_, ?_, F3.out⟩
    · rw [HE.out]; rfl
    · rw [HA0.out]; exact F2.out
end Go.Proofs.Ytbfoamidnekoaab
