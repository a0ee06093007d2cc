/- auto.leastTo: the least word of a state, by first places. -/
import Derived.Test.YtbfoamidnekoaabJn
import Derived.Test.YtbfoamidnekoaabRq
namespace Go.Proofs.Ytbfoamidnekoaab
open Go Go.RowKit Go.Lib
set_option linter.unusedVariables false

/-- Letters as bytes. -/
def lB (l : List Nat) : List UInt8 := l.map fun c => UInt8.ofNat (97 + c)
theorem lB_append (a b : List Nat) : lB (a ++ b) = lB a ++ lB b := by simp [lB]
theorem lB_len (a : List Nat) : (lB a).length = a.length := by simp [lB]

set_option maxHeartbeats 4000000 in
set_option maxRecDepth 100000 in
theorem leastTo_any (v : Value) (A : Aut) (ns : List Nat) (K : Nat) (w : World) (h : AR w v A) (hk : A.k = K) (hK : 1 ≤ K ∧ K ≤ 8) (hns : A.nx = ns.map fun (x : Nat) => (x : Int)) (hlt : ∀ x ∈ ns, x < A.ac.length) (hl : ns.length ≤ 32768) (hp : 0 < ns.length) (hN : A.ac.length ≤ 4096)
    (hF : Fst K A.ac.length ns) (s : Nat) (hs : s < A.ac.length) :
    Calls Try.prog 45 #[v, .int .i64 s] w fun e w' => e = .returned (.string ⟨(lB (lw K ns s)).toArray⟩) ∧ Below w.heap.size w w' := by
  obtain ⟨an, cn, aa, ca, e, h1, h2⟩ := h.is
  have HFW : Hid (∀ w', Below w.heap.size w w' → Calls Try.prog 55 #[v] w' fun e w2 => e = .returned (.slice (some ⟨w'.heap.size + 1, 0, none⟩) A.ac.length A.ac.length) ∧ w2.ownsRow w'.heap.size 3 1 (.slice (some ⟨w'.heap.size + 1, 0, none⟩) A.ac.length A.ac.length) A.ac.length (nC (fwL A.ac.length ns 0)) ∧ Below w'.heap.size w' w2) :=
    fun w' hb => firstWays_any v A ns w' (h.stay hb) hns hlt hl hp hN
  have HF : Hid (Fst K A.ac.length ns) := hF
  obtain ⟨i0, hi, hz0, hz1, hz2⟩ := info_parts Try.info_u8
  subst e
  rw [hk] at HFW ⊢
  obtain ⟨hK1, hK8⟩ := hK
  clear h h1 h2 hns hlt hp hF hk
  have R1 : RowAt (w.alloc (.cells #[.int .i64 K, .slice an A.nx.length cn, .slice aa A.ac.length ca] 25)) w.heap.size #[.int .i64 K, .slice an A.nx.length cn, .slice aa A.ac.length ca] := RowAt.last _ _ _
  have HR1 : Hid _ := R1
  clear R1
  go_enter Try.func45, Try.ntmps45
  go_wp2_with fail
  refine (HFW.out _ (below_new _ _)).mono ?_
  rintro e w1 ⟨rfl, ho1, hb1⟩
  have R2 : RowAt w1 w.heap.size #[.int .i64 K, .slice an A.nx.length cn, .slice aa A.ac.length ca] := RowAt.stay HR1.out hb1
  have HR2 : Hid (RowAt w1 w.heap.size #[.int .i64 K, .slice an A.nx.length cn, .slice aa A.ac.length ca]) := R2
  have HB1 : Hid (Below w.heap.size w w1) := go_on (below_new _ _) hb1
  have HC : Hid (∀ t w', Below w1.heap.size w1 w' → 0 < t → t < A.ac.length → w'.cell? ⟨(w.alloc (.cells #[.int .i64 K, .slice an A.nx.length cn, .slice aa A.ac.length ca] 25)).heap.size + 1, t, none⟩ = some (.int .i64 (ns.idxOf t : Nat))) := by
    intro t w' hb ht0 ht
    rw [below_cell hb (ho1.lt _ rfl).2, ho1.cellAt t (by omega)]
    simp [nC, fwL_at A.ac.length ns t ht (HF.out t ht0 ht).1]
  clear ho1 hb1 R2 HFW HR1
  obtain ⟨G, hG⟩ : ∃ G, (w.alloc (.cells #[.int .i64 K, .slice an A.nx.length cn, .slice aa A.ac.length ca] 25)).heap.size + 1 = G := ⟨_, rfl⟩
  rw [hG] at HC ⊢
  clear hG
  go_wp2_with fail
  go_loopw [1, 6] (fun vs vo wr => ∃ (t : Nat) (l : List UInt8), vs = .int .i64 t ∧ t < A.ac.length ∧ wr.ownsRow w1.heap.size 5 1 vo l.length (byteCells l) ∧ lB (lw K ns s) = lB (lw K ns t) ++ l.reverse ∧ Below w1.heap.size w1 wr) (fun vs _ _ => (intOf vs).toNat)
  case atStart => exact ⟨s, [], rfl, hs, World.ownsRow_nil _ _ _ _, by simp, Below.refl _ _⟩
  case round =>
    obtain ⟨t, l, rfl, ht, ho, hlw, hb⟩ := hrel
    obtain ⟨va, vc, rfl⟩ := own_shape ho
    have HO : Hid (wr.ownsRow w1.heap.size 5 1 (.slice va l.length vc) l.length (byteCells l)) := ho
    have HLW : Hid (lB (lw K ns s) = lB (lw K ns t) ++ l.reverse) := hlw
    have HB : Hid (Below w1.heap.size w1 wr) := hb
    have hll : l.length ≤ 4096 := by
      have h1 := congrArg List.length hlw
      have h2 := lw_len HF.out s hs
      simp [lB_len] at h1
      omega
    clear ho hlw hb
    by_cases ht0 : t = 0
    · subst ht0
      have HE : Hid (l.reverse = lB (lw K ns s)) := by show _ = _; rw [HLW.out, lw_zero]; simp [lB]
      go_wp2_with fail
      refine (slReverse_any w1.heap.size _ l _ HO.out (by omega)).mono ?_
      rintro e w2 ⟨rfl, ho2, hb2⟩
      have hbb : Below w1.heap.size w1 w2 := HB.out.trans hb2
      have hcv := run_string_own w1.heap.size (.slice va l.length vc) l.reverse w2 (by rw [List.length_reverse]; exact ho2)
      rw [HE.out] at hcv
      clear ho2 hb2
      go_wp2_with fail
      go_ret
      exact ⟨rfl, go_on HB1.out hbb⟩
    · have ht0I : ¬ (t : Int) = 0 := by omega
      have htI : (t : Int) < A.ac.length := by omega
      have hcell := HC.out t wr HB.out (by omega) ht
      obtain ⟨p, hpp⟩ : ∃ p, ns.idxOf t = p := ⟨_, rfl⟩
      rw [hpp] at hcell
      have hst := lw_step HF.out (s := t) (by omega) ht
      rw [hpp] at hst
      have hlt2 := (HF.out t (by omega) ht).2
      rw [hpp] at hlt2
      have hpl : p < 32768 := by
        rw [← hpp]
        have := List.idxOf_lt_length_of_mem (HF.out t (by omega) ht).1
        omega
      have hrem : (p : Int).tmod (K : Int) = ((p % K : Nat) : Int) := by rw [Int.tmod_eq_emod_of_nonneg (by omega)]; rfl
      have hquo : (p : Int).tdiv (K : Int) = ((p / K : Nat) : Int) := by rw [Int.tdiv_eq_ediv_of_nonneg (by omega)]; rfl
      have hrK : p % K < K := Nat.mod_lt _ (by omega)
      obtain ⟨r, hr⟩ : ∃ r, p % K = r := ⟨_, rfl⟩
      obtain ⟨q, hq⟩ : ∃ q, p / K = q := ⟨_, rfl⟩
      rw [hr] at hrem hrK hst
      rw [hq] at hquo hlt2 hst
      have hw1 : IntKind.u8.wrap (r : Int) = (r : Int) := by rw [IntKind.wrap_u8]; omega
      obtain ⟨c, hc⟩ : ∃ c, UInt8.ofNat (97 + r) = c := ⟨_, rfl⟩
      have hcn : c.toNat = 97 + r := by rw [← hc, UInt8.toNat_ofNat']; omega
      have hw2 : IntKind.u8.wrap (97 + (r : Int)) = (c.toNat : Int) := by rw [IntKind.wrap_u8]; omega
      have hwq : IntKind.i64.wrap (q : Int) = (q : Int) := by rw [IntKind.wrap_i64]; omega
      have hK0 : ¬ (K : Int) = 0 := by omega
      have hKN : ¬ K = 0 := by omega
      have HNX : Hid (lB (lw K ns s) = lB (lw K ns q) ++ (l ++ [c]).reverse) := by
        show _ = _
        have e : lB [r] = [c] := by show [UInt8.ofNat (97 + r)] = [c]; rw [hc]
        rw [HLW.out, hst, lB_append, e]
        simp
      have hqn : q < A.ac.length := by omega
      have HS : Hid (∀ y, Below w1.heap.size w1 y → (∀ o, y.cell? ⟨w.heap.size, o, none⟩ = (#[.int .i64 K, .slice an A.nx.length cn, .slice aa A.ac.length ca] : Array Value)[o]?) ∧ y.cell? ⟨G, t, none⟩ = some (.int .i64 (p : Int)) ∧ Below w1.heap.size w1 y) := fun y hy => ⟨(HR2.out.stay hy).cell, by rw [HC.out t y hy (by omega) ht, hpp], hy⟩
      have HW : Hid (∀ o w9, (wr.drew.alloc o).grownBy w9 (Value.slice va l.length vc).ownBlock → Below w1.heap.size w1 w9) := fun o w9 hg9 => (HB.out.drew.alloc HB.out.drew.size o).grown hg9 (by have h1 := HB.out.size; have h2 : wr.drew.heap.size = wr.heap.size := rfl; simp; omega) (fun g hg => (HO.out.lt g hg).1)
      clear hr hq hc hcn hst hpp hcell
      go_wp2_with fail
      go_region_held3 (fun y => (∀ o, y.cell? ⟨w.heap.size, o, none⟩ = (#[.int .i64 K, .slice an A.nx.length cn, .slice aa A.ac.length ca] : Array Value)[o]?) ∧ y.cell? ⟨G, t, none⟩ = some (.int .i64 (p : Int)) ∧ Below w1.heap.size w1 y) (first | exact HS.out _ HB.out.drew | assumption | exact HS.out _ (HB.out.drew.alloc HB.out.drew.size _) | exact HS.out _ (HW.out _ _ (by assumption))) (first
        | (rw [if_pos (by rfl)]; refine wp_append_own _ _ _ 83 rfl w1.heap.size 5 i0 (.int .u8 0) 1 1 Try.underlying83 hi hz0 hz1 hz2 rfl (by decide) _ _ _ rfl ((show wr.drew.ownsRow w1.heap.size 5 1 (.slice va l.length vc) l.length (byteCells l) from HO.out).alloc _) ⟨wr.heap.size, 0, none⟩ 1 1 [.int .u8 (c.toNat : Int)] rfl rfl (cell_one_new _ _ _) (by intro u hu; simp at hu; subst hu; rfl) (by unfold maxLen; omega) (by omega) (by have h1 := HB.out.size; have h2 : wr.drew.heap.size = wr.heap.size := rfl; simp; omega) ?_; intro v9 w9 ho9 hg9 _))
      all_goals (
        have HO9 : Hid (w9.ownsRow w1.heap.size 5 1 v9 (l ++ [c]).length (byteCells (l ++ [c]))) := by
          show World.ownsRow _ _ _ _ _ _ _
          rw [List.length_append]
          exact own_snoc ho9
        have HB9 : Hid (Below w1.heap.size w1 w9) := HW.out _ _ hg9
        obtain ⟨va9, vc9, rfl⟩ := own_shape ho9
        have S9 := HS.out w9.drew HB9.out.drew
        clear ho9 hg9
        go_wp2_with fail
        go_region_held3 (fun y => (∀ o, y.cell? ⟨w.heap.size, o, none⟩ = (#[.int .i64 K, .slice an A.nx.length cn, .slice aa A.ac.length ca] : Array Value)[o]?) ∧ y.cell? ⟨G, t, none⟩ = some (.int .i64 (p : Int)) ∧ Below w1.heap.size w1 y) (first | exact S9 | assumption) (fail)
        all_goals (
          go_wp2_with fail
          go_roundw
          case rel => exact ⟨q, l ++ [c], by go_num, hqn, HO9.out, HNX.out, HB9.out.drew⟩
          case measure => simp [intOf]; omega))
end Go.Proofs.Ytbfoamidnekoaab
