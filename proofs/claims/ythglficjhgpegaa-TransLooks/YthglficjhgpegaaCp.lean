/- The document's gcd, Kernel, tail. -/
import Derived.Test.YthglficjhgpegaaCo
import Derived.Test.YthglficjhgpegaaAl
namespace Go.Proofs.Ythglficjhgpegaa
open Go Go.RowKit Go.Lib
set_option linter.unusedVariables false

set_option maxHeartbeats 1000000 in
theorem rgcd_any (a b : Nat) (w : World) (ha : a ≤ 9223372036854775807) (hb : b ≤ 9223372036854775807) :
    Calls Try.prog 78 #[.int .i64 a, .int .i64 b] w fun e w' => e = .returned (.int .i64 (Nat.gcd a b : Nat)) ∧ Below w.heap.size w w' := by
  go_enter Try.func78, Try.ntmps78
  go_wp2
  go_loopw [0, 1] (fun x y wr => ∃ p q : Nat, x = .int .i64 p ∧ y = .int .i64 q ∧ p ≤ 9223372036854775807 ∧ q ≤ 9223372036854775807 ∧ Nat.gcd p q = Nat.gcd a b ∧ Below w.heap.size w wr) (fun _ y _ => (intOf y).toNat)
  case atStart => exact ⟨a, b, rfl, rfl, ha, hb, rfl, Below.refl _ _⟩
  case round =>
    obtain ⟨p, q, rfl, rfl, hp, hq, hg, hB⟩ := hrel
    have HG : Hid (Nat.gcd p q = Nat.gcd a b) := hg
    have HB : Hid (Below w.heap.size w wr) := hB
    have HB2 : Hid (Below w.heap.size w wr.drew) := hB.drew
    clear hg hB
    by_cases h : 0 < q
    · have hm : p % q < q := Nat.mod_lt _ h
      have hq0 : ((q : Int) == 0) = false := by rw [beq_eq_false_iff_ne]; omega
      have hq1 : ((q : Int) != 0) = true := by rw [bne_iff_ne]; omega
      have hq2 : ¬ (q : Int) = 0 := by omega
      have htm : (p : Int).tmod q = ((p % q : Nat) : Int) := by rw [Int.tmod_eq_emod_of_nonneg (by omega)]; omega
      have hwm : IntKind.i64.wrap ((p % q : Nat) : Int) = ((p % q : Nat) : Int) := IntWalk.i64_in _ (by omega)
      obtain ⟨z, hzE⟩ : ∃ z, p % q = z := ⟨_, rfl⟩
      have HZE : Hid (p % q = z) := hzE
      rw [hzE] at htm hwm hm
      clear hzE
      go_wp2_with fail
      go_region
      all_goals go_wp2_with fail
      all_goals go_roundw
      all_goals first
        | exact ⟨q, z, rfl, rfl, hq, by omega, by rw [← HG.out, ← HZE.out, Nat.gcd_comm p q, Nat.gcd_rec q p, Nat.gcd_comm], HB2.out⟩
        | (simp [intOf]; omega)
    · have : q = 0 := by omega
      subst this
      go_wp2
      go_ret
      exact ⟨by have := HG.out; rw [Nat.gcd_zero_right] at this; rw [this]; rfl, HB.out⟩

/-- A list of the call's own that lies behind w1. -/
structure KeAt (w1 wr : World) (v : Value) (xs : List Nat) : Prop where
  row : wr.ownsRow w1.heap.size 3 1 v xs.length (zC (pI xs))
  below : Below w1.heap.size w1 wr
theorem KeAt.drew {w1 wr : World} {v : Value} {xs : List Nat} (h : KeAt w1 wr v xs) : KeAt w1 wr.drew v xs := ⟨own_below h.row (Below.refl _ _).drew, h.below.drew⟩

set_option maxHeartbeats 4000000 in
set_option maxRecDepth 100000 in
theorem rkernel_gen (n : Int) (G : Nat → Nat) (l : List Nat) (E : Int) (hL : RL n G l E) (hle : l.length ≤ 64) (w : World) :
    Calls Try.prog 24 #[.agg (trC n G)] w fun e w' => ∃ v, e = .returned (.tuple #[v, .int .i64 E]) ∧ w'.ownsRow w.heap.size 3 1 v l.length (zC (pI (krL l))) ∧ Below w.heap.size w w' := by
  obtain ⟨i0, hi, hz0, hz1, hz2⟩ := info_parts Try.info_int
  have H1 : Hid (TrAt (w.alloc (.cells (trC n G) 26)) w.heap.size n G) := heap_last _ _
  have HB0 : Hid (Below w.heap.size w (w.alloc (.cells (trC n G) 26))) := (Below.refl _ _).alloc (Nat.le_refl _) _
  go_enter Try.func24, Try.ntmps24
  go_wp2_with (refine wpList_load_row rfl 26 _ rfl (w.heap.size) rfl 26 (trC n G) (0, 0) _ (H1.out) Try.underlying26 rfl (rfl) ?_)
  refine (hL _).mono ?_
  rintro e w1 ⟨v', rfl, hO, hB1⟩
  clear hL
  obtain ⟨ga, gcap, rfl⟩ := own_shape hO
  have HB1 : Hid (Below w.heap.size w w1) := HB0.out.trans (hB1.mono (by simp))
  have HO : Hid (∀ i, i < l.length → ∃ g, ga = some ⟨g, 0, none⟩ ∧ g < w1.heap.size ∧ ∀ j, j < l.length → w1.cell? ⟨g, j, none⟩ = some (.int .i64 ((im l j : Nat) : Int))) := by
    intro i hi
    obtain ⟨g, hga⟩ : ∃ g, ga = some ⟨g, 0, none⟩ := by
      rcases hO.2 with ⟨_, h0⟩ | ⟨g', cap', cur, hv, _⟩
      · omega
      · simp only [Value.slice.injEq] at hv
        exact ⟨g', hv.1⟩
    subst hga
    exact ⟨g, rfl, (hO.lt g rfl).2, fun j hj => (hO.cellAt j (by omega)).trans (pZ_get hj)⟩
  clear hB1 hO
  go_wp2_with fail
  go_loopw [6, 7, 8] (fun vl vi _ wr => ∃ i : Nat, i ≤ l.length ∧ vi = .int .i64 i ∧ KeAt w1 wr vl (tb (kr l) i)) (fun _ vi _ _ => l.length - (intOf vi).toNat)
  case atStart => exact ⟨0, Nat.zero_le _, rfl, by show World.ownsRow _ _ _ _ _ 0 []; exact World.ownsRow_nil _ _ _ _, Below.refl _ _⟩
  case round =>
    obtain ⟨i, hin, rfl, hK⟩ := hrel
    obtain ⟨gb, gbc, rfl⟩ := own_shape hK.row
    have hpl : (tb (kr l) i).length = i := tb_len _ _
    have HK : Hid (KeAt w1 wr (.slice gb (tb (kr l) i).length gbc) (tb (kr l) i)) := hK
    clear hK
    by_cases hlt : i < l.length
    · have hiI : (i : Int) < l.length := by omega
      obtain ⟨g, rfl, hG, hc0⟩ := HO.out i hlt
      have HCE : Hid (∀ j, j < l.length → w1.cell? ⟨g, j, none⟩ = some (.int .i64 ((im l j : Nat) : Int))) := hc0
      have HG : Hid (g < w1.heap.size) := hG
      have HKR : Hid (KR l i (kr l i)) := kr_spec l i
      clear hG hc0
      go_wp2_with fail
      rename_i wr0
      go_loopw [8] (fun vk wq => ∃ k : Nat, k ≤ kr l i ∧ vk = .int .i64 k ∧ KeAt w1 wq (.slice gb (tb (kr l) i).length gbc) (tb (kr l) i)) (fun vk _ => kr l i - (intOf vk).toNat)
      case atStart => exact ⟨0, Nat.zero_le _, rfl, HK.out⟩
      case round =>
        clear HK
        obtain ⟨k, hk, rfl, hK⟩ := hrel
        have HK : Hid (KeAt w1 wr (.slice gb (tb (kr l) i).length gbc) (tb (kr l) i)) := hK
        have HKd : Hid (KeAt w1 wr.drew (.slice gb (tb (kr l) i).length gbc) (tb (kr l) i)) := hK.drew
        clear hK
        have hki : k ≤ i := Nat.le_trans hk HKR.out.1
        have hkI : (k : Int) < l.length := by omega
        have hc1 := (below_cell (o := i) HK.out.below HG.out).trans (HCE.out i hlt)
        have hc2 := (below_cell (o := k) HK.out.below HG.out).trans (HCE.out k (by omega))
        by_cases he : im l k = im l i
        · have HE : Hid (kr l i = k) := HKR.out.uniq ⟨hki, he, fun j hj q => HKR.out.2.2 j (by omega) q⟩
          rw [he] at hc2
          obtain ⟨d, hdE⟩ : ∃ d, im l i = d := ⟨_, rfl⟩
          rw [hdE] at hc1 hc2
          clear he hdE
          clear HK
          go_wp2_with fail
          go_region
          all_goals (generalize hW : wr.drew = W; rw [hW] at HKd; clear hW)
          all_goals have hsz := HKd.out.below.size
          all_goals go_wp2_with (at_builtin; refine wpList_append_own _ rfl _ _ 22 rfl w1.heap.size 3 i0 (.int .i64 0) 1 8 Try.underlying22 hi hz0 hz1 hz2 rfl (by decide) _ _ _ rfl (HKd.out.row.alloc _) ⟨W.heap.size, 0, none⟩ 1 1 [.int .i64 (k : Int)] rfl rfl (cell_one_new _ _ _) (by intro u hu; simp at hu; subst hu; rfl) (by unfold maxLen; omega) (by omega) (by simp; omega) ?_; intro v4 w4 hown4 hgrow _; have HR4 : Hid (KeAt w1 w4 v4 (tb (kr l) (i + 1))) := ⟨(by show World.ownsRow _ _ _ _ _ _ _; rw [tb_succ, HE.out, pI_append, zC_append, List.length_append]; exact hown4), (HKd.out.below.alloc HKd.out.below.size _).grown hgrow (by simp; omega) (fun g hg => (HKd.out.row.lt g hg).1)⟩; clear hown4 hgrow)
          all_goals go_roundw
          all_goals first
            | exact ⟨i + 1, by omega, by go_num, HR4.out⟩
            | (simp [intOf]; omega)
        · have hlk : k < kr l i := by
            rcases Nat.lt_or_ge k (kr l i) with c | c
            · exact c
            · exact absurd (by rw [show k = kr l i from by omega]; exact HKR.out.2.1) he
          obtain ⟨d, hdE⟩ : ∃ d, im l i = d := ⟨_, rfl⟩
          obtain ⟨c, hcE⟩ : ∃ c, im l k = c := ⟨_, rfl⟩
          rw [hdE] at hc1 he
          rw [hcE] at hc2 he
          have hne : ((c : Int) == (d : Int)) = false := by rw [beq_eq_false_iff_ne]; omega
          have hne' : ¬ (c : Int) = (d : Int) := by omega
          clear HK hcE hdE he
          go_wp2_with fail
          go_region
          all_goals go_wp2_with fail
          all_goals go_roundw
          all_goals first
            | exact ⟨k + 1, by omega, by go_num, HKd.out⟩
            | (simp [intOf]; omega)
    · have hiI : ¬ (i : Int) < l.length := by omega
      obtain rfl : i = l.length := by omega
      go_wp2_with fail
      go_ret2
      refine ⟨_, rfl, ?_, HB1.out.trans (HK.out.below.mono HB1.out.size)⟩
      have := own_mono HK.out.row HB1.out.size
      rw [hpl] at this
      exact this
theorem rkernel_ok (l : List Nat) (hl : Tf l) (w : World) :
    Calls Try.prog 24 #[.agg (tC l)] w fun e w' => ∃ v, e = .returned (.tuple #[v, .int .i64 0]) ∧ w'.ownsRow w.heap.size 3 1 v l.length (zC (pI (krL l))) ∧ Below w.heap.size w w' :=
  rkernel_gen _ _ l 0 (RL.ok hl) hl.le w
theorem rkernel_bad (N : Int) (g : Nat → Nat) (hg : W64 g) (h : ¬ okT N g) (w : World) :
    Calls Try.prog 24 #[.agg (trC N g)] w fun e w' => ∃ v, e = .returned (.tuple #[v, .int .i64 130]) ∧ w'.ownsRow w.heap.size 3 1 v 0 [] ∧ Below w.heap.size w w' :=
  rkernel_gen _ _ [] 130 (RL.bad hg h) (by simp) w

/-! ### tail -/
def TlQ (l : List Nat) (i : Nat) (w : World) (e : Ending) (w' : World) : Prop := ∃ t r, TR (im l) i t r ∧ e = .returned (.tuple #[.int .i64 (t : Nat), .int .i64 (r : Nat)]) ∧ Below w.heap.size w w'
set_option maxHeartbeats 4000000 in
set_option maxRecDepth 100000 in
theorem rtail_any (v : Value) (l : List Nat) (hl : Tf l) (a : Nat) (ha : a < l.length) (w : World) (hv : Reads w v (pI l)) :
    Calls Try.prog 77 #[v, .int .i64 a] w (TlQ l a w) := by
  obtain ⟨i0, hi, hz0, hz1, hz2⟩ := info_parts Try.info_int
  obtain ⟨ga, cap, rfl, hr⟩ := hv
  have HR : Hid (∀ i, i < (pI l).length → ∃ g o, ga = some ⟨g, o, none⟩ ∧ g < w.heap.size ∧ w.cell? ⟨g, o + i, none⟩ = some (.int .i64 ((pI l).getD i 0))) := hr
  clear hr
  have hle := hl.le
  have HLT : Hid (∀ k, orb (im l) a k < l.length) := fun k => orb_lt hl.lt ha k
  rw [pI_len] at *
  go_enter Try.func77, Try.ntmps77
  go_wp2_with fail
  go_loopw [1, 6, 7] (fun vi vl _ wr => ∃ s : Nat, vi = .int .i64 (orb (im l) a s : Nat) ∧ (∀ x y, x < y → y < s → orb (im l) a x ≠ orb (im l) a y) ∧ KeAt w wr vl (tb (orb (im l) a) s)) (fun _ vl _ _ => 65 - (match vl with | .slice _ n _ => n | _ => 0))
  case atStart => exact ⟨0, rfl, fun x y _ h => absurd h (by omega), by show World.ownsRow _ _ _ _ _ 0 []; exact World.ownsRow_nil _ _ _ _, Below.refl _ _⟩
  case round =>
    obtain ⟨s, rfl, hap, hK⟩ := hrel
    obtain ⟨gb, gbc, rfl⟩ := own_shape hK.row
    have hpl : (tb (orb (im l) a) s).length = s := tb_len _ _
    have HK : Hid (KeAt w wr (.slice gb (tb (orb (im l) a) s).length gbc) (tb (orb (im l) a) s)) := hK
    have HAP : Hid (∀ x y, x < y → y < s → orb (im l) a x ≠ orb (im l) a y) := hap
    clear hK hap
    go_wp2_with fail
    go_loopw [7] (fun vk wq => ∃ k : Nat, k ≤ s ∧ vk = .int .i64 k ∧ (∀ x, x < k → orb (im l) a x ≠ orb (im l) a s) ∧ wq = wr) (fun vk _ => s - (intOf vk).toNat)
    case atStart => exact ⟨0, Nat.zero_le _, rfl, fun x h => absurd h (by omega), rfl⟩
    case round =>
      obtain ⟨k, hk, rfl, hno, rfl⟩ := hrel
      have HN : Hid (∀ x, x < k → orb (im l) a x ≠ orb (im l) a s) := hno
      clear hno
      have hs64 : s ≤ l.length := by
        have h1 := nodup_le l.length _ (map_nodup HAP.out) (fun x hx => by
          obtain ⟨y, _, rfl⟩ := List.mem_map.1 hx
          exact HLT.out y)
        simpa using h1
      by_cases hks : k < s
      · have hkI : (k : Int) < s := by omega
        obtain ⟨gg, hgb⟩ : ∃ g, gb = some ⟨g, 0, none⟩ := by
          rcases HK.out.row.2 with ⟨_, h0⟩ | ⟨g', cap', cur, hv, _⟩
          · omega
          · simp only [Value.slice.injEq] at hv
            exact ⟨g', hv.1⟩
        subst hgb
        have hc := (HK.out.row.cellAt k (by omega)).trans (pZ_get (by omega))
        rw [tb_im _ hks] at hc
        rw [hpl]
        by_cases he : orb (im l) a k = orb (im l) a s
        · have HT : Hid (TR (im l) a k (s - k)) := ⟨fun x y h1 h2 => HAP.out x y h1 (by omega), by rw [show k + (s - k) = s from by omega]; exact he.symm, by omega⟩
          rw [he] at hc
          obtain ⟨d, hdE⟩ : ∃ d, orb (im l) a s = d := ⟨_, rfl⟩
          rw [hdE] at hc ⊢
          have hw : IntKind.i64.wrap ((s : Int) - k) = ((s - k : Nat) : Int) := by rw [IntWalk.i64_in _ (by omega)]; omega
          clear he hdE
          go_wp2_with fail
          go_ret2
          exact ⟨k, s - k, HT.out, rfl, HK.out.below⟩
        · have HN2 : Hid (∀ x, x < k + 1 → orb (im l) a x ≠ orb (im l) a s) := fun x hx => by
            rcases Nat.lt_or_ge x k with c | c
            · exact HN.out x c
            · rw [show x = k from by omega]; exact he
          obtain ⟨d, hdE⟩ : ∃ d, orb (im l) a s = d := ⟨_, rfl⟩
          obtain ⟨c, hcE⟩ : ∃ c, orb (im l) a k = c := ⟨_, rfl⟩
          rw [hcE] at hc he
          rw [hdE] at he ⊢
          have hne : ((c : Int) == (d : Int)) = false := by rw [beq_eq_false_iff_ne]; omega
          have hne' : ¬ (c : Int) = (d : Int) := by omega
          have HDE : Hid (orb (im l) a s = d) := hdE
          clear he hcE hdE
          go_wp2_with fail
          go_roundw
          case rel => exact ⟨k + 1, by omega, by go_num, fun x hx => by rw [← HDE.out]; exact HN2.out x hx, trivial⟩
          case measure => simp [intOf]; omega
      · have hkI : ¬ (k : Int) < s := by omega
        obtain rfl : k = s := by omega
        have hd := HLT.out k
        obtain ⟨g, o, rfl, hG, hc0⟩ := HR.out (orb (im l) a k) hd
        rw [pI_get hd] at hc0
        have HN2 : Hid (∀ x y, x < y → y < k + 1 → orb (im l) a x ≠ orb (im l) a y) := fun x y h1 h2 => by
          rcases Nat.lt_or_ge y k with c | c
          · exact HAP.out x y h1 c
          · rw [show y = k from by omega]; exact HN.out x (by omega)
        have HO : Hid (orb (im l) a (k + 1) = im l (orb (im l) a k)) := rfl
        have HC0 : Hid (w.cell? ⟨g, o + orb (im l) a k, none⟩ = some (.int .i64 ((im l (orb (im l) a k) : Nat) : Int))) := hc0
        clear hc0
        have hsz := HK.out.below.size
        obtain ⟨d, hdE⟩ : ∃ d, orb (im l) a k = d := ⟨_, rfl⟩
        have HDE : Hid (orb (im l) a k = d) := hdE
        rw [hdE] at HC0 hd HO ⊢
        clear hdE
        have hdI : (d : Int) < l.length := by omega
        go_wp2_with (at_builtin; refine wpList_append_own _ rfl _ _ 22 rfl w.heap.size 3 i0 (.int .i64 0) 1 8 Try.underlying22 hi hz0 hz1 hz2 rfl (by decide) _ _ _ rfl (HK.out.row.alloc _) ⟨wr.heap.size, 0, none⟩ 1 1 [.int .i64 (d : Int)] rfl rfl (cell_one_new _ _ _) (by intro u hu; simp at hu; subst hu; rfl) (by unfold maxLen; omega) (by omega) (by simp; omega) ?_; intro v4 w4 hown4 hgrow _; have HR4 : Hid (KeAt w w4 v4 (tb (orb (im l) a) (k + 1))) := ⟨(by show World.ownsRow _ _ _ _ _ _ _; rw [tb_succ, HDE.out, pI_append, zC_append, List.length_append]; exact hown4), (HK.out.below.alloc HK.out.below.size _).grown hgrow (by simp; omega) (fun g hg => (HK.out.row.lt g hg).1)⟩; clear hown4 hgrow; have hc4 := (below_cell (o := o + d) HR4.out.below hG).trans HC0.out)
        refine ⟨⟨k + 1, by rw [HO.out], HN2.out, HR4.out⟩, ?_⟩
        obtain ⟨g4, c4, rfl⟩ := own_shape HR4.out.row
        simp only [tb_len]
        omega
end Go.Proofs.Ythglficjhgpegaa
