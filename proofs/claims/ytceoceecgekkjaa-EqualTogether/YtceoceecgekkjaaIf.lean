/- equal: lastWord. -/
import Derived.Test.YtceoceecgekkjaaLm
import Derived.Test.YtceoceecgekkjaaIa
namespace Go.Proofs.Ytceoceecgekkjaa
open Go Go.RowKit Go.Lib
set_option linter.unusedVariables false

/-- A meeting's cells. -/
def emC (K : Nat) (n : Nod (Nat × Nat)) : List Value := [.int .u16 (n.p.1 : Nat), .int .u16 (n.p.2 : Nat), .int .u32 ((n.u * K + n.c : Nat) : Int)]
theorem emC_len (K : Nat) (n : Nod (Nat × Nat)) : (emC K n).length = 3 := rfl
theorem em_cell {w : World} {base g cap K : Nat} {e : TypeId} {Q : List (Nod (Nat × Nat))} (h : w.ownsRow base e 3 (.slice (some ⟨g, 0, none⟩) Q.length cap) Q.length (Q.flatMap (emC K))) {i : Nat} {n : Nod (Nat × Nat)} (hi : Q[i]? = some n) {j : Nat} (hj : j < 3) : w.cell? ⟨g, i * 3 + j, none⟩ = (emC K n)[j]? := by
  have hl := (List.getElem?_eq_some_iff.1 hi).1
  rw [h.cellAt (i * 3 + j) (by omega), flat_get (emC_len K) Q i n j hi hj]

set_option maxHeartbeats 4000000 in
set_option maxRecDepth 100000 in
theorem elast_any (base g cap : Nat) (Q : List (Nod (Nat × Nat))) (k : Nat) (hk1 : 1 ≤ k) (hk : k ≤ 8) (hQ : Q.length ≤ 16777216) (hU : Ups k Q) (n0 : Nod (Nat × Nat)) (h0 : Q[Q.length - 1]? = some n0) (w : World) (h : w.ownsRow base 80 3 (.slice (some ⟨g, 0, none⟩) Q.length cap) Q.length (Q.flatMap (emC k))) :
    Calls Try.prog 55 #[.int .i64 k, .slice (some ⟨g, 0, none⟩) Q.length cap] w fun e w' => e = .returned (.string ⟨(lB n0.w).toArray⟩) ∧ Below w.heap.size w w' := by
  obtain ⟨i0, hi, hz0, hz1, hz2⟩ := info_parts Try.info_u8
  have HU : Hid (Ups k Q) := hU
  have HQC : Hid (∀ y, Below w.heap.size w y → ∀ (i : Nat) (n : Nod (Nat × Nat)), Q[i]? = some n → y.cell? ⟨g, i * 3 + 2, none⟩ = some (.int .u32 ((n.u * k + n.c : Nat) : Int))) := fun y hy i n hin => em_cell (own_below h hy) hin (j := 2) (by omega)
  have h2 := (List.getElem?_eq_some_iff.1 h0).1
  have HL0 : Hid (n0.w.length ≤ 16777216) := by
    have h1 := hU.len _ n0 h0
    show _ ≤ _
    omega
  obtain ⟨L, hL⟩ : ∃ L, Q.length - 1 = L := ⟨_, rfl⟩
  have hwL : IntKind.i64.wrap ((Q.length : Int) - 1) = (L : Int) := by rw [IntKind.wrap_i64]; omega
  rw [hL] at h0
  clear h hU hL
  go_enter Try.func55, Try.ntmps55
  go_wp2_with fail
  go_loopw [6, 5, 7] (fun vs vo _ wr => ∃ (t : Nat) (n : Nod (Nat × Nat)) (l : List UInt8), vs = .int .i64 t ∧ Q[t]? = some n ∧ wr.ownsRow w.heap.size 5 1 vo l.length (byteCells l) ∧ lB n0.w = lB n.w ++ l.reverse ∧ Below w.heap.size w wr) (fun vs _ _ _ => (intOf vs).toNat)
  case atStart => exact ⟨L, n0, [], rfl, h0, World.ownsRow_nil _ _ _ _, by simp, Below.refl _ _⟩
  case round =>
    clear hwL
    obtain ⟨t, n, l, rfl, ht, ho, hlw, hb⟩ := hrel
    obtain ⟨va, vc, rfl⟩ := own_shape ho
    have HO : Hid (wr.ownsRow w.heap.size 5 1 (.slice va l.length vc) l.length (byteCells l)) := ho
    have HLW : Hid (lB n0.w = lB n.w ++ l.reverse) := hlw
    have HB : Hid (Below w.heap.size w wr) := hb
    have htQ := (List.getElem?_eq_some_iff.1 ht).1
    have hll : l.length ≤ 16777216 := by
      have h1 := congrArg List.length hlw
      have h2 := HL0.out
      simp [lB_len] at h1
      omega
    have hws := hb.size
    by_cases ht0 : t = 0
    · subst ht0
      have HE : Hid (l.reverse = lB n0.w) := by show _ = _; rw [HLW.out, HU.out.1 n ht]; simp [lB]
      clear ho hlw hb
      go_wp2_with fail
      refine (slReverse_any w.heap.size _ l _ HO.out (by omega)).mono ?_
      rintro e w2 ⟨rfl, ho2, hb2⟩
      have hbb : Below w.heap.size w w2 := HB.out.trans hb2
      have hcv := run_string_own w.heap.size (.slice va l.length vc) l.reverse w2 (by rw [List.length_reverse]; exact ho2)
      rw [HE.out] at hcv
      clear ho2 hb2
      go_wp2_with fail
      go_ret
      exact ⟨rfl, hbb⟩
    · obtain ⟨m, m1, m2, m3, m4⟩ := HU.out.2 t n ht (by omega)
      have ht0I : ¬ (t : Int) = 0 := by omega
      have htI : (t : Int) < Q.length := by omega
      have q1 := HQC.out wr hb t n ht
      obtain ⟨c, hc⟩ : ∃ c, UInt8.ofNat (97 + n.c) = c := ⟨_, rfl⟩
      have hcn : c.toNat = 97 + n.c := by rw [← hc, UInt8.toNat_ofNat']; omega
      obtain ⟨u, hu⟩ : ∃ u, n.u = u := ⟨_, rfl⟩
      obtain ⟨a, hae⟩ : ∃ a, n.c = a := ⟨_, rfl⟩
      rw [hu, hae] at q1
      rw [hu] at m1 m2
      rw [hae] at m4 hcn
      have hub : u * k ≤ 16777216 * 8 := Nat.mul_le_mul (by omega) hk
      obtain ⟨by', hby⟩ : ∃ b, u * k + a = b := ⟨_, rfl⟩
      rw [hby] at q1
      have hmodN : by' % k = a := by rw [← hby, Nat.mul_comm, Nat.mul_add_mod, Nat.mod_eq_of_lt m4]
      have hdivN : by' / k = u := by rw [← hby, Nat.mul_comm, Nat.mul_add_div (by omega), Nat.div_eq_of_lt m4, Nat.add_zero]
      have hrem : (by' : Int).tmod (k : Int) = (a : Int) := by rw [Int.tmod_eq_emod_of_nonneg (by omega), ← hmodN]; rfl
      have hquo : (by' : Int).tdiv (k : Int) = (u : Int) := by rw [Int.tdiv_eq_ediv_of_nonneg (by omega), ← hdivN]; rfl
      have hwb : IntKind.i64.wrap (by' : Int) = (by' : Int) := by rw [IntKind.wrap_i64]; omega
      have hwa : IntKind.i64.wrap (a : Int) = (a : Int) := by rw [IntKind.wrap_i64]; omega
      have hwa8 : IntKind.u8.wrap (a : Int) = (a : Int) := by rw [IntKind.wrap_u8]; omega
      have hw97 : IntKind.u8.wrap (97 + (a : Int)) = (c.toNat : Int) := by rw [IntKind.wrap_u8]; omega
      have hwu : IntKind.i64.wrap (u : Int) = (u : Int) := by rw [IntKind.wrap_i64]; omega
      have hK0 : ¬ (k : Int) = 0 := by omega
      have hKN : ¬ k = 0 := by omega
      have HNX : Hid (lB n0.w = lB m.w ++ (l ++ [c]).reverse) := by
        show _ = _
        have e : lB [n.c] = [c] := by show [UInt8.ofNat (97 + n.c)] = [c]; rw [hc]
        rw [HLW.out, m3, lB_append, e]
        simp
      have HM1 : Hid (Q[u]? = some m) := m1
      clear ho hlw hb hc hcn hu hae m3 m1 ht hby hmodN hdivN hub
      go_wp2_with (at_builtin; refine wpList_append_own _ rfl _ _ 98 rfl w.heap.size 5 i0 (.int .u8 0) 1 1 Try.underlying98 hi hz0 hz1 hz2 rfl (by decide) _ _ _ rfl (HO.out.alloc _) ⟨wr.heap.size, 0, none⟩ 1 1 [.int .u8 (c.toNat : Int)] rfl rfl (cell_one_new _ _ _) (by intro u hu; simp at hu; subst hu; rfl) (by unfold maxLen; omega) (by omega) (by simp; omega) ?_; intro v9 w9 ho9 hg9 _; have HO9 : Hid (w9.ownsRow w.heap.size 5 1 v9 (l ++ [c]).length (byteCells (l ++ [c]))) := (by show World.ownsRow _ _ _ _ _ _ _; rw [List.length_append]; exact own_snoc ho9); obtain ⟨va9, vc9, rfl⟩ := own_shape ho9; have hb9 : Below w.heap.size w w9 := (HB.out.alloc HB.out.size _).grown hg9 (by simp; omega) (fun g hg => (HO.out.lt g hg).1); have HB9 : Hid (Below w.heap.size w w9) := hb9; clear ho9 hg9 hb9)
      go_roundw
      case rel => exact ⟨u, m, l ++ [c], by go_num, HM1.out, HO9.out, HNX.out, HB9.out⟩
      case measure => simp [intOf]; omega
end Go.Proofs.Ytceoceecgekkjaa
