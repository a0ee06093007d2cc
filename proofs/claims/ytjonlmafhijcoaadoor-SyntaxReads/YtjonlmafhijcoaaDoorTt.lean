/- Contract of the document's depth: of a tree, as the stack tells it. -/
import Derived.Test.YtjonlmafhijcoaaDoorTr
import Derived.Test.YtjonlmafhijcoaaDoorTs
namespace Go.Proofs.YtjonlmafhijcoaaDoor
open Go.RowKit

/-- The weight that the document's depth counts. -/
def wtB (st : Bool) (n : Nd) : Nat := if st then wtS n else 1
theorem wtB_le (st : Bool) (n : Nd) : wtB st n ≤ 1 := by unfold wtB; cases st; exact Nat.le_refl _; exact wtS_le n
theorem fold_start (l : List Nat) : ∀ x, l.foldl max x = max x (l.foldl max 0) := by
  induction l with
  | nil => intro x; simp
  | cons a l ih => intro x; simp only [List.foldl_cons]; rw [ih (max x a), ih (max 0 a)]; omega
theorem fold_back (l : List Nat) : l.reverse.foldl max 0 = l.foldl max 0 := by
  induction l with
  | nil => rfl
  | cons a l ih => rw [List.reverse_cons, List.foldl_append, ih]; simp only [List.foldl_cons, List.foldl_nil]; rw [fold_start l (max 0 a)]; omega
theorem back_get (F : List Nat) (p t : Nat) (hp : p ≤ F.length) (ht : t < F.length - p) : (F.drop p).reverse.getD t 0 = F.getD (F.length - 1 - t) 0 := by
  rw [List.getD_eq_getElem?_getD, List.getElem?_reverse (by simp; omega), List.getElem?_drop, List.getD_eq_getElem?_getD]
  congr 2
  simp
  omega

set_option maxHeartbeats 4000000 in
set_option maxRecDepth 100000 in
theorem rdepth_any (st : Bool) (v : Value) (ts : List Nd) (w : World) (hv : NReads w v ts) (hm : ts.length ≤ 4000) (hf : freeN ts = some 1) :
    Calls Tryd.prog 39 #[v, .bool st] w fun e w' => e = .returned (.int .i64 (((heavyN (wtB st) ts).getD 0 0 : Nat) : Int)) ∧ Below w.heap.size w w' := by
  have HFr : Hid (∀ i, i < ts.length → ∃ c, freeN (ts.take i) = some c ∧ good (ts.getD i (0, 0)) = true ∧ arity (ts.getD i (0, 0)).1 ≤ c ∧ freeN (ts.take (i + 1)) = some (c - arity (ts.getD i (0, 0)).1 + 1)) := fun i hi => free_good hf hi
  have HF : Hid (freeN ts = some 1) := hf
  obtain ⟨i0, hi, hz0, hz1, hz2⟩ := info_parts Tryd.info_int
  obtain ⟨a, cap, rfl, hr⟩ := hv
  have HR : Hid _ := hr
  clear hr hf
  go_enter Tryd.func39, Tryd.ntmps39
  go_wp2_with fail
  go_loopw [5, 6] (fun vf vi wr => ∃ i : Nat, i ≤ ts.length ∧ vi = .int .i64 i ∧ wr.ownsRow w.heap.size 3 1 vf (heavyN (wtB st) (ts.take i)).length (nC (heavyN (wtB st) (ts.take i))) ∧ freeN (ts.take i) = some (heavyN (wtB st) (ts.take i)).length ∧ (∀ x ∈ heavyN (wtB st) (ts.take i), x ≤ i) ∧ Below w.heap.size w wr) (fun _ vi _ => ts.length - (intOf vi).toNat)
  case atStart => exact ⟨0, Nat.zero_le _, rfl, by show World.ownsRow _ _ _ _ _ 0 []; exact World.ownsRow_nil _ _ _ _, rfl, fun x hx => by simp [heavyN, heavy] at hx, Below.refl _ _⟩
  case round =>
    obtain ⟨i, hile, rfl, hown, hfc, hbd, hb⟩ := hrel
    have hst : ∀ h : i < ts.length, heavyN (wtB st) (ts.take (i + 1)) = hpush (wtB st) (ts.getD i (0, 0)) (heavyN (wtB st) (ts.take i)) := fun h => heavy_take h
    by_cases hlt : i < ts.length
    · have hst2 := hst hlt
      have hiI : (i : Int) < ts.length := by omega
      obtain ⟨g, o, rfl, hg, h1, h2⟩ := HR.out i hlt
      obtain ⟨c', hc', hgood, har, hnext⟩ := HFr.out i hlt
      obtain ⟨F, hF⟩ : ∃ F, heavyN (wtB st) (ts.take i) = F := ⟨_, rfl⟩
      rw [hF] at hown hfc hbd hst2
      obtain rfl : c' = F.length := by rw [hfc] at hc'; simpa using hc'.symm
      obtain ⟨⟨k, s⟩, hn⟩ : ∃ n, ts.getD i (0, 0) = n := ⟨_, rfl⟩
      rw [hn] at h1 h2 hgood har hnext hst2
      have c1 : wr.cell? ⟨g, o + i * 2, none⟩ = some (.int .i64 k) := by rw [below_cell hb hg]; exact h1
      have HBD : Hid (∀ x ∈ heavyN (wtB st) (ts.take (i + 1)), x ≤ i + 1) := by
        show ∀ x ∈ _, _
        rw [hst2]
        exact hpush_le (wtB_le _ _) hbd
      have HBF : Hid (∀ x ∈ F, x ≤ i) := hbd
      have hfl := free_le ts i hile _ hfc
      obtain ⟨r, hrd⟩ : ∃ r, arity k = r := ⟨_, rfl⟩
      obtain ⟨p, hp⟩ : ∃ p, F.length - r = p := ⟨_, rfl⟩
      obtain ⟨t1, ht1⟩ : ∃ t1, wtB st (k, s) = t1 := ⟨_, rfl⟩
      have ht1' : t1 ≤ 1 := by rw [← ht1]; exact wtB_le _ _
      obtain ⟨q, hq⟩ : ∃ q, (F.drop p).foldl max 0 = q := ⟨_, rfl⟩
      have HE : Hid (heavyN (wtB st) (ts.take (i + 1)) = F.take p ++ [q + t1] ∧ freeN (ts.take (i + 1)) = some (p + 1)) := by
        refine ⟨?_, ?_⟩
        · rw [hst2]; unfold hpush; simp only; rw [hrd, hp, hq, ht1]
        · rw [hnext]; simp only; rw [hrd, hp]
      have hqi : q ≤ i := by
        rw [← hq]
        exact fold_le (m := i) (F.drop p) 0 (by omega) (fun y hy => hbd y (List.mem_of_mem_drop hy))
      simp only at har
      rw [hrd] at har
      have hal := arity_le k
      rw [hrd] at hal
      have HRd : Hid (arity k = r) := hrd
      have hpI : (F.length : Int) - (r : Int) = p := by omega
      have HT1 : Hid (wtB st (k, s) = t1) := ht1
      have HQ : Hid ((F.drop p).reverse.foldl max 0 = q) := by show _ = _; rw [fold_back, hq]
      obtain ⟨fa, fc, rfl⟩ := own_shape hown
      have HOW : Hid (wr.ownsRow w.heap.size 3 1 (.slice fa F.length fc) F.length (nC F)) := hown
      have HB : Hid (Below w.heap.size w wr) := hb
      have hfc0 : F.length ≤ fc := by
        obtain ⟨_, h⟩ := hown
        rcases h with ⟨h, h'⟩ | ⟨g', cp, cur, h, _, _, hcp, _⟩
        · omega
        · simp at h; omega
      have hpc : (p : Int) ≤ fc := by omega
      have hpF : p ≤ F.length := by omega
      clear hst hst2 hnext hgood hn h2 hfc hc' hbd hown hb hF hrd ht1 hq h1
      go_wp2_with fail
      refine (rarity_any k _).mono ?_
      rintro e w2 ⟨rfl, hw2⟩
      subst w2
      rw [HRd.out]
      go_wp2_with fail
      go_loop [8, 9] (fun vm vt => ∃ t : Nat, t ≤ r ∧ vt = .int .i64 t ∧ vm = .int .i64 ((((F.drop p).reverse.take t).foldl max 0 : Nat) : Int)) (fun _ vt => r - (intOf vt).toNat)
      case atStart => exact ⟨0, Nat.zero_le _, rfl, rfl⟩
      case round =>
        obtain ⟨t, htl, rfl, rfl⟩ := hrel
        by_cases ht : t < r
        · have htI : (t : Int) < (r : Int) := by omega
          obtain ⟨fg, rfl, _, _, hc⟩ := own_ncell HOW.out (F.length - 1 - t) (by omega)
          have hmax := fold_take (F.drop p).reverse t (by simp; omega)
          rw [back_get F p t hpF (by omega)] at hmax
          have hxl : F.getD (F.length - 1 - t) 0 ≤ i := HBF.out _ (by rw [List.getD_eq_getElem?_getD, List.getElem?_eq_getElem (by omega)]; exact List.getElem_mem _)
          obtain ⟨x, hx⟩ : ∃ x, F.getD (F.length - 1 - t) 0 = x := ⟨_, rfl⟩
          obtain ⟨y, hy⟩ : ∃ y, ((F.drop p).reverse.take t).foldl max 0 = y := ⟨_, rfl⟩
          obtain ⟨m, hmm⟩ : ∃ m, F.length - 1 - t = m := ⟨_, rfl⟩
          have hmI : (F.length : Int) - 1 - (t : Int) = m := by omega
          have hml : (m : Int) < F.length := by omega
          rw [hx] at hmax hxl hc
          rw [hmm] at hc
          rw [hy] at hmax
          rw [hy]
          have HM : Hid (((F.drop p).reverse.take (t + 1)).foldl max 0 = max y x) := hmax
          clear hmax hx hy hmm
          go_wp2_with fail
          go_round
          case rel => exact ⟨t + 1, by omega, by go_num, by rw [HM.out]; congr 1; split <;> omega⟩
          case measure => simp [intOf]; omega
        · have htI : ¬ (t : Int) < (r : Int) := by omega
          obtain rfl : t = r := by omega
          rw [List.take_of_length_le (by simp; omega), HQ.out]
          clear ht
          have HOC : Hid (wr.ownsRow w.heap.size 3 1 (.slice fa p fc) p (nC (F.take p))) := own_cut HOW.out p (by omega)
          have fin : ∀ (z : Int), z = ((q + t1 : Nat) : Int) → ∀ v9 w9, w9.ownsRow w.heap.size 3 1 v9 (p + 1) (nC (F.take p) ++ [.int .i64 z]) → (wr.alloc (.cells #[.int .i64 z] 3)).grownBy w9 (Value.slice fa p fc).ownBlock →
              w9.ownsRow w.heap.size 3 1 v9 (heavyN (wtB st) (ts.take (i + 1))).length (nC (heavyN (wtB st) (ts.take (i + 1)))) ∧ freeN (ts.take (i + 1)) = some (heavyN (wtB st) (ts.take (i + 1))).length ∧ Below w.heap.size w w9 := by
            intro z hz v9 w9 ho9 hg9
            subst hz
            have hl9 : (F.take p ++ [q + t1]).length = p + 1 := by simp; omega
            refine ⟨?_, ?_, (HB.out.alloc HB.out.size _).grown hg9 (by have := HB.out.size; simp; omega) (fun k hk => (HOC.out.lt k hk).1)⟩
            · rw [HE.out.1, nC_append, hl9]; exact ho9
            · rw [HE.out.2, HE.out.1, hl9]
          have HFin : Hid _ := fin
          clear fin
          have hp4 : p ≤ 4000 := by omega
          cases st with
          | false =>
            have ht11 : t1 = 1 := by rw [← HT1.out]; rfl
            go_wp2_with (at_builtin; refine wpList_append_own _ rfl _ _ 85 rfl w.heap.size 3 i0 (.int .i64 0) 1 8 Tryd.underlying85 hi hz0 hz1 hz2 rfl (by decide) _ _ _ rfl (HOC.out.alloc _) ⟨wr.heap.size, 0, none⟩ 1 1 [.int .i64 ((q : Int) + 1)] rfl rfl (by exact cell_one_new _ _ _) (by intro u hu; simp at hu; subst hu; rfl) (by unfold maxLen; omega) (by omega) (by have := HB.out.size; simp; omega) ?_)
            intro v9 w9 ho9 hg9 _
            have HH : Hid _ := HFin.out ((q : Int) + 1) (by omega) v9 w9 ho9 hg9
            clear ho9 hg9
            go_wp2_with fail
            go_roundw
            case rel => exact ⟨i + 1, by omega, by go_num, HH.out.1, HH.out.2.1, HBD.out, HH.out.2.2⟩
            case measure => simp [intOf]; omega
          | true =>
            by_cases h8 : k = 8
            · have ht11 : t1 = 1 := by rw [← HT1.out]; simp [wtB, wtS, h8]
              subst h8
              go_wp2_with (at_builtin; refine wpList_append_own _ rfl _ _ 85 rfl w.heap.size 3 i0 (.int .i64 0) 1 8 Tryd.underlying85 hi hz0 hz1 hz2 rfl (by decide) _ _ _ rfl (HOC.out.alloc _) ⟨wr.heap.size, 0, none⟩ 1 1 [.int .i64 ((q : Int) + 1)] rfl rfl (by exact cell_one_new _ _ _) (by intro u hu; simp at hu; subst hu; rfl) (by unfold maxLen; omega) (by omega) (by have := HB.out.size; simp; omega) ?_)
              intro v9 w9 ho9 hg9 _
              have HH : Hid _ := HFin.out ((q : Int) + 1) (by omega) v9 w9 ho9 hg9
              clear ho9 hg9
              go_wp2_with fail
              go_roundw
              case rel => exact ⟨i + 1, by omega, by go_num, HH.out.1, HH.out.2.1, HBD.out, HH.out.2.2⟩
              case measure => simp [intOf]; omega
            · have ht11 : t1 = 0 := by rw [← HT1.out]; simp [wtB, wtS, h8]
              have h8b : (k == 8) = false := by simpa using h8
              go_wp2_with (at_builtin; refine wpList_append_own _ rfl _ _ 85 rfl w.heap.size 3 i0 (.int .i64 0) 1 8 Tryd.underlying85 hi hz0 hz1 hz2 rfl (by decide) _ _ _ rfl (HOC.out.alloc _) ⟨wr.heap.size, 0, none⟩ 1 1 [.int .i64 (q : Int)] rfl rfl (by exact cell_one_new _ _ _) (by intro u hu; simp at hu; subst hu; rfl) (by unfold maxLen; omega) (by omega) (by have := HB.out.size; simp; omega) ?_)
              intro v9 w9 ho9 hg9 _
              have HH : Hid _ := HFin.out (q : Int) (by omega) v9 w9 ho9 hg9
              clear ho9 hg9
              go_wp2_with fail
              go_roundw
              case rel => exact ⟨i + 1, by omega, by go_num, HH.out.1, HH.out.2.1, HBD.out, HH.out.2.2⟩
              case measure => simp [intOf]; omega
    · have hiI : ¬ (i : Int) < ts.length := by omega
      obtain rfl : i = ts.length := by omega
      rw [List.take_length] at hown hfc hbd
      rw [HF.out] at hfc
      have hl1 : (heavyN (wtB st) ts).length = 1 := by simpa using hfc.symm
      obtain ⟨fa, fc, rfl⟩ := own_shape hown
      obtain ⟨fg, rfl, _, _, hc0⟩ := own_ncell hown 0 (by omega)
      rw [hl1]
      have HB : Hid (Below w.heap.size w wr) := hb
      clear hown hfc hbd hst hlt hb
      go_wp2_with fail
      go_ret
      exact ⟨rfl, HB.out⟩

end Go.Proofs.YtjonlmafhijcoaaDoor
