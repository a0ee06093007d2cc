/- The law's shuffled: a permutation of n points out of any numbers. -/
import Derived.Test.YthglficjhgpegabAy
import Derived.Test.YthglficjhgpegabAw
namespace Go.Proofs.Ythglficjhgpegab
open Go Go.RowKit Go.Lib
set_option linter.unusedVariables false

def pI (p : List Nat) : List Int := p.map fun (x : Nat) => (x : Int)
theorem pI_len (p : List Nat) : (pI p).length = p.length := by simp [pI]
theorem pI_toL (p : List Nat) : toL (pI p) = p := by
  unfold toL pI
  rw [List.map_map]
  have e : (Int.toNat ∘ fun (x : Nat) => (x : Int)) = id := by funext x; simp
  rw [e, List.map_id]
theorem pI_append (p : List Nat) (x : Nat) : pI (p ++ [x]) = pI p ++ [(x : Int)] := by simp [pI]
theorem pZ_get {p : List Nat} {i : Nat} (h : i < p.length) : (zC (pI p))[i]? = some (.int .i64 (im p i : Nat)) := by simp [zC, pI, im, h]
theorem pZ_set (p : List Nat) (i x : Nat) : zC (pI (p.set i x)) = (zC (pI p)).set i (.int .i64 (x : Int)) := by
  unfold zC pI
  rw [List.map_set, List.map_set]
theorem pI_ok {p : List Nat} (h : Tf p) : okL (pI p) := by
  refine ⟨by rw [pI_len]; exact h.pos, by rw [pI_len]; exact h.le, fun i hi => ?_⟩
  rw [pI_len] at hi ⊢
  have e : (pI p).getD i 0 = ((im p i : Nat) : Int) := by simp [pI, im, hi]
  rw [e]
  have := h.lt i hi
  omega
theorem stl_inj (n : Nat) : Inj (stl n) := by
  intro i j hi hj e
  rw [stl_len] at hi hj
  rwa [stl_im hi, stl_im hj] at e
/-- Two images changed about. -/
def swp (p : List Nat) (i k : Nat) : List Nat := (p.set i (im p k)).set k (im p i)
theorem swp_len (p : List Nat) (i k : Nat) : (swp p i k).length = p.length := by simp [swp]
theorem im_set {p : List Nat} {i x j : Nat} (hi : i < p.length) : im (p.set i x) j = if j = i then x else im p j := by
  unfold im
  rw [List.getD_eq_getElem?_getD, List.getD_eq_getElem?_getD, List.getElem?_set]
  by_cases e : i = j
  · rw [if_pos e, if_pos (by omega), if_pos e.symm]
    simp
  · rw [if_neg e, if_neg (fun q => e q.symm)]
def sg (i k j : Nat) : Nat := if j = k then i else if j = i then k else j
theorem swp_im {p : List Nat} {i k : Nat} (hi : i < p.length) (hk : k < p.length) (j : Nat) : im (swp p i k) j = im p (sg i k j) := by
  unfold swp sg
  rw [im_set (by simpa using hk), im_set hi]
  split
  · rfl
  · split <;> rfl
theorem sg_lt {i k j n : Nat} (hi : i < n) (hk : k < n) (hj : j < n) : sg i k j < n := by
  unfold sg
  split
  · exact hi
  · split <;> omega
theorem sg_inj {i k a b : Nat} (h : sg i k a = sg i k b) : a = b := by
  unfold sg at h
  split at h <;> split at h <;> (try split at h) <;> (try split at h) <;> omega
theorem swp_tf {p : List Nat} (h : Tf p) {i k : Nat} (hi : i < p.length) (hk : k < p.length) : Tf (swp p i k) :=
  ⟨by rw [swp_len]; exact h.pos, by rw [swp_len]; exact h.le, fun j hj => by
    rw [swp_len] at hj ⊢
    rw [swp_im hi hk]
    exact h.lt _ (sg_lt hi hk hj)⟩
theorem swp_inj {p : List Nat} (h : Inj p) {i k : Nat} (hi : i < p.length) (hk : k < p.length) : Inj (swp p i k) := by
  intro a b ha hb e
  rw [swp_len] at ha hb
  rw [swp_im hi hk, swp_im hi hk] at e
  exact sg_inj (h _ _ (sg_lt hi hk ha) (sg_lt hi hk hb) e)
def ShQ (n : Nat) (w : World) (e : Ending) (w' : World) : Prop := ∃ v' p, Tf p ∧ Inj p ∧ p.length = n ∧ e = .returned v' ∧ w'.ownsRow w.heap.size 3 1 v' n (zC (pI p)) ∧ Below w.heap.size w w'

set_option maxHeartbeats 4000000 in
set_option maxRecDepth 100000 in
theorem shuffled_any (n : Nat) (h1 : 1 ≤ n) (h2 : n ≤ 64) (v : Value) (xs : List Int) (hxs : ∀ x ∈ xs, I64 x) (w : World) (hv : Reads w v xs) (hm : xs.length ≤ 9223372036854775806) :
    Calls Try.prog 20 #[.int .i64 n, v] w (ShQ n w) := by
  show Calls _ _ _ _ (ShQ n w)
  obtain ⟨i0, hi, hz0, hz1, hz2⟩ := info_parts Try.info_int
  obtain ⟨a, cap, rfl, hr⟩ := hv
  have HR : Hid (∀ i, i < xs.length → ∃ g o, a = some ⟨g, o, none⟩ ∧ g < w.heap.size ∧ w.cell? ⟨g, o + i, none⟩ = some (.int .i64 (xs.getD i 0))) := hr
  have HX : Hid (∀ x ∈ xs, I64 x) := hxs
  clear hr hxs
  go_enter Try.func20, Try.ntmps20
  go_wp2_with fail
  go_loopw [5, 6] (fun vl vi wr => ∃ i : Nat, i ≤ n ∧ vi = .int .i64 i ∧ wr.ownsRow w.heap.size 3 1 vl i (zC (pI (stl i))) ∧ Below w.heap.size w wr) (fun _ vi _ => n - (intOf vi).toNat)
  case atStart => exact ⟨0, Nat.zero_le _, rfl, by show World.ownsRow _ _ _ _ _ 0 []; exact World.ownsRow_nil _ _ _ _, Below.refl _ _⟩
  case round =>
    obtain ⟨i, hin, rfl, hown, hb⟩ := hrel
    obtain ⟨ga, gcap, rfl⟩ := own_shape hown
    by_cases hlt : i < n
    · have hiI : (i : Int) < n := by omega
      have HS : Hid (stl (i + 1) = stl i ++ [i]) := by show _ = _; simp [stl, List.range_succ]
      have HB : Hid (Below w.heap.size w wr) := hb
      have hsz := hb.size
      have HO : Hid (wr.ownsRow w.heap.size 3 1 (.slice ga i gcap) i (zC (pI (stl i)))) := hown
      clear hown hb
      go_wp2_with (at_builtin; refine wpList_append_own _ rfl _ _ 22 rfl w.heap.size 3 i0 (.int .i64 0) 1 8 Try.underlying22 hi hz0 hz1 hz2 rfl (by decide) _ _ _ rfl (HO.out.alloc _) ⟨wr.heap.size, 0, none⟩ 1 1 [.int .i64 (i : Int)] rfl rfl (cell_one_new _ _ _) (by intro u hu; simp at hu; subst hu; rfl) (by unfold maxLen; omega) (by omega) (by simp; omega) ?_; intro v' w4 hown' hgrow _; have HR4 : Hid (w4.ownsRow w.heap.size 3 1 v' (i + 1) (zC (pI (stl (i + 1))))) := (by show World.ownsRow _ _ _ _ _ _ _; rw [HS.out, pI_append, zC_append]; exact hown'); have HB4 : Hid (Below w.heap.size w w4) := (HB.out.alloc HB.out.size _).grown hgrow (by simp; omega) (fun g hg => (HO.out.lt g hg).1); clear hown' hgrow)
      go_roundw
      case rel => exact ⟨i + 1, by omega, by go_num, HR4.out, HB4.out⟩
      case measure => simp [intOf]; omega
    · have hiI : ¬ (i : Int) < n := by omega
      obtain rfl : i = n := by omega
      obtain ⟨g, hga⟩ : ∃ g, ga = some ⟨g, 0, none⟩ := by
        rcases hown.2 with ⟨_, h0⟩ | ⟨g', cap', cur, hv, _⟩
        · omega
        · simp only [Value.slice.injEq] at hv
          exact ⟨g', hv.1⟩
      subst hga
      have HO : Hid (wr.ownsRow w.heap.size 3 1 (.slice (some ⟨g, 0, none⟩) i gcap) i (zC (pI (stl i)))) := hown
      have HB : Hid (Below w.heap.size w wr) := hb
      clear hown hb
      go_wp2_with fail
      rename_i wr0
      go_loopw [7, 8, 9] (fun vi _ _ wr => ∃ (j : Nat) (p : List Nat), j ≤ i ∧ vi = .int .i64 j ∧ Tf p ∧ Inj p ∧ p.length = i ∧ wr.ownsRow w.heap.size 3 1 (.slice (some ⟨g, 0, none⟩) i gcap) i (zC (pI p)) ∧ Below w.heap.size w wr) (fun vi _ _ _ => i - (intOf vi).toNat)
      case atStart => exact ⟨0, stl i, Nat.zero_le _, rfl, stl_tf h1 h2, stl_inj i, stl_len i, HO.out, HB.out⟩
      case round =>
        clear HO HB
        obtain ⟨j, p, hjn, rfl, hT, hJ, hL, hown, hb⟩ := hrel
        have HT : Hid (Tf p) := hT
        have HJ : Hid (Inj p) := hJ
        have HLn : Hid (p.length = i) := hL
        have HO : Hid (wr.ownsRow w.heap.size 3 1 (.slice (some ⟨g, 0, none⟩) i gcap) i (zC (pI p))) := hown
        have HB : Hid (Below w.heap.size w wr) := hb
        by_cases hlt2 : j < i
        · have hjI : (j : Int) < i := by omega
          by_cases hx : j < xs.length
          · obtain ⟨g2, o2, rfl, hg2, hcell⟩ := HR.out j hx
            have hcell2 : wr.cell? ⟨g2, o2 + j, none⟩ = some (.int .i64 (xs.getD j 0)) := by rw [below_cell hb hg2]; exact hcell
            have hbd : I64 (xs.getD j 0) := HX.out _ (by simp [hx])
            obtain ⟨x, hxe⟩ : ∃ x, xs.getD j 0 = x := ⟨_, rfl⟩
            rw [hxe] at hcell2 hbd
            have htt := tmod_twice x h1
            have hz1' := Int.emod_nonneg x (b := (i : Int)) (by omega)
            have hz2' := Int.emod_lt_of_pos x (b := (i : Int)) (by omega)
            have b1 := Int.tmod_lt_of_pos x (b := (i : Int)) (by omega)
            have b2 : -(i : Int) < x.tmod i := Int.lt_tmod_of_pos x (b := (i : Int)) (by omega)
            obtain ⟨y, hye⟩ : ∃ y, x.tmod i = y := ⟨_, rfl⟩
            obtain ⟨k, hke⟩ : ∃ k : Nat, x % i = k := ⟨(x % i).toNat, by omega⟩
            rw [hye] at htt b1 b2
            rw [hke] at htt hz1' hz2'
            have hki : k < i := by omega
            have hkI : (k : Int) < i := by omega
            have hw1 : IntKind.i64.wrap y = y := IntWalk.i64_in _ (by omega)
            have hw2 : IntKind.i64.wrap (y + i) = y + i := IntWalk.i64_in _ (by omega)
            have hw3 : IntKind.i64.wrap (k : Int) = (k : Int) := IntWalk.i64_in _ (by omega)
            have hn0 : ((i : Int) == 0) = false := by rw [beq_eq_false_iff_ne]; omega
            have hn0' : ¬ (i : Int) = 0 := by omega
            have hxI : (j : Int) < xs.length := by omega
            have hcj : wr.cell? ⟨g, j, none⟩ = some (.int .i64 (im p j : Nat)) := (hown.cellAt j (by omega)).trans (pZ_get (by omega))
            have hck : wr.cell? ⟨g, k, none⟩ = some (.int .i64 (im p k : Nat)) := (hown.cellAt k (by omega)).trans (pZ_get (by omega))
            have hfj : wr.frozen? ⟨g, j, none⟩ = false := hown.frozenAt j
            have hst1 := (hown.stored j (.int .i64 ((im p k : Nat) : Int))).1
            rw [← pZ_set] at hst1
            have hck2 : (wr.setCell ⟨g, j, none⟩ (.int .i64 ((im p k : Nat) : Int))).cell? ⟨g, k, none⟩ = some (.int .i64 (im (p.set j (im p k)) k : Nat)) := (hst1.cellAt k (by omega)).trans (pZ_get (by simp; omega))
            have hfk : (wr.setCell ⟨g, j, none⟩ (.int .i64 ((im p k : Nat) : Int))).frozen? ⟨g, k, none⟩ = false := hst1.frozenAt k
            have hst2 := (hst1.stored k (.int .i64 ((im p j : Nat) : Int))).1
            rw [← pZ_set] at hst2
            have HO2 : Hid (((wr.setCell ⟨g, j, none⟩ (.int .i64 ((im p k : Nat) : Int))).setCell ⟨g, k, none⟩ (.int .i64 ((im p j : Nat) : Int))).ownsRow w.heap.size 3 1 (.slice (some ⟨g, 0, none⟩) i gcap) i (zC (pI (swp p j k)))) := hst2
            have hgw : w.heap.size ≤ g := (hown.lt g rfl).1
            have HB2 : Hid (Below w.heap.size w ((wr.setCell ⟨g, j, none⟩ (.int .i64 ((im p k : Nat) : Int))).setCell ⟨g, k, none⟩ (.int .i64 ((im p j : Nat) : Int)))) := (hb.setCell (p := ⟨g, j, none⟩) hgw _).setCell (p := ⟨g, k, none⟩) hgw _
            have HT2 : Hid (Tf (swp p j k)) := swp_tf hT (by omega) (by omega)
            have HJ2 : Hid (Inj (swp p j k)) := swp_inj hJ (by omega) (by omega)
            have HL2 : Hid ((swp p j k).length = i) := by show _ = _; rw [swp_len]; exact hL
            clear hT hJ hL hown hb hst1 hst2 hcell hxe hbd hke hz1' hz2'
            obtain ⟨A, hA⟩ : ∃ A, im p j = A := ⟨_, rfl⟩
            obtain ⟨B, hB'⟩ : ∃ B, im p k = B := ⟨_, rfl⟩
            obtain ⟨C, hC⟩ : ∃ C, im (p.set j (im p k)) k = C := ⟨_, rfl⟩
            rw [hC] at hck2
            rw [hA] at hcj HO2 HB2
            rw [hB'] at hck hck2 hfk HO2 HB2
            clear hA hB' hC
            go_wp2_with fail
            go_roundw
            case rel => exact ⟨j + 1, swp p j k, by omega, by go_num, HT2.out, HJ2.out, HL2.out, HO2.out, HB2.out⟩
            case measure => simp [intOf]; omega
          · have hxI : ¬ (j : Int) < xs.length := by omega
            clear hT hJ hL hown hb
            go_wp2_with fail
            go_ret
            exact ⟨_, p, HT.out, HJ.out, HLn.out, rfl, HO.out, HB.out⟩
        · have hjI : ¬ (j : Int) < i := by omega
          clear hT hJ hL hown hb
          go_wp2_with fail
          go_ret
          exact ⟨_, p, HT.out, HJ.out, HLn.out, rfl, HO.out, HB.out⟩
theorem make_pI (p : List Nat) (hp : Tf p) (v : Value) (w : World) {base n : Nat} (hn : p.length = n) (ho : w.ownsRow base 3 1 v n (zC (pI p))) :
    Calls Try.prog 8 #[v] w fun e w' => e = .returned (.tuple #[.agg (tC p), .int .i64 0]) ∧ Below w.heap.size w w' := by
  subst hn
  have ho' : w.ownsRow base 3 1 v (pI p).length (zC (pI p)) := by rw [pI_len]; exact ho
  have hle := hp.le
  have := make_any v (pI p) w (own_reads ho') (by rw [pI_len]; omega)
  have e : mkV (pI p) = .tuple #[.agg (tC p), .int .i64 0] := by
    unfold mkV
    have hok := pI_ok hp
    rw [if_pos ⟨hok.1, hok.2.1⟩, if_pos hok, pI_toL]
    rfl
  rw [e] at this
  exact this
end Go.Proofs.Ythglficjhgpegab
