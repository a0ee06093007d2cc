/- E64 E23 E51 Qkd Qld E65 E54 E55 E66 E67 E52, in one text. -/
import Derived.Test.YtafcejipoioigaaW2
import Derived.Test.YtafcejipoioigaaW1
import Derived.Deep.QuietTactic
import Derived.Test.YtafcejipoioigaaJs
import Derived.BigQuiet
import Derived.ArgAppend
import Derived.Deep.RegionHeld
namespace Go.Proofs.Ytafcejipoioigaa
open Go Go.RowKit Go.Lib Go.Maps
set_option linter.unusedVariables false
attribute [-instance] List.instBEq instBEqProd

/-- The first m powers of i. -/
def pwL (K : Nat) (N : List Nat) (i m : Nat) : List Nat := (List.range m).map (pwN K N i)

theorem pwL_len (K : Nat) (N : List Nat) (i m : Nat) : (pwL K N i m).length = m := by simp [pwL]

theorem pwL_succ (K : Nat) (N : List Nat) (i m : Nat) : pwL K N i (m + 1) = pwL K N i m ++ [pwN K N i m] := by simp [pwL, List.range_succ]

theorem pwL_at {K : Nat} {N : List Nat} {i m a : Nat} (h : a < m) : (nC (pwL K N i m))[a]? = some (.int .i64 ((pwN K N i a : Nat) : Int)) := by
  unfold nC pwL
  simp [h]

/-- How many a slice has. -/
def lenV : Value → Nat
  | .slice _ n _ => n
  | _ => 0

set_option maxHeartbeats 4000000 in
set_option maxRecDepth 100000 in
theorem rcycle_any {w : World} {rb : Nat} {A : Aut} {M : List (List Nat)} {N : List Nat} (h : RF w rb A M N) (i : Nat) (hi : i < M.length) :
    Calls Try.prog 18 #[.pointer (some ⟨rb, 0, none⟩), .int .i64 (i : Nat)] w fun e w' => (∃ t r : Nat, e = .returned (.tuple #[.int .i64 (t : Nat), .int .i64 (r : Nat), .int .i64 0]) ∧ TR (rm A.k.toNat N i) 0 t r) ∧ Below w.heap.size w w' := by
  have C0 : Hid (Calls Try.prog 45 #[.pointer (some ⟨rb, 0, none⟩), .int .i64 (i : Nat)] w fun e w' => e = .returned (.bool true) ∧ w = w') := by have := rhas_any h i; rw [hasE_yes hi] at this; exact this
  have HM : Hid (∀ y, Below w.heap.size w y → RF y rb A M N) := fun y hy => h.below hy
  have HMon : Hid (Mon A M N) := h.mon
  have HI : Hid (i < M.length) := hi
  obtain ⟨T, R, hTR⟩ := tr_ex (h.mon.rm_lt hi) h.mon.pos
  have hTR5 : T + R ≤ 512 := by have := hTR.le (h.mon.rm_lt hi) h.mon.pos; have := h.mon.most; omega
  have HTR : Hid (TR (rm A.k.toNat N i) 0 T R) := hTR
  have HPZ : Hid (pwL A.k.toNat N i 1 = [0]) := rfl
  obtain ⟨i0, hi0, hz0, hz1, hz2⟩ := info_parts Try.info_int
  have HST : Hid ((w.alloc (.cells #[.int .i64 0] 3)).ownsRow w.heap.size 3 1 (.slice (some ⟨w.heap.size, 0, none⟩) 1 1) 1 (nC (pwL A.k.toNat N i 1))) := cells_own (heap_last w _) (Nat.le_refl _) rfl
  have HBN : Hid (Below w.heap.size w (w.alloc (.cells #[.int .i64 0] 3))) := below_new _ _
  clear h hi hTR
  go_enter Try.func18, Try.ntmps18
  go_wp2_with fail
  refine C0.out.mono ?_
  rintro e w1 ⟨rfl, rfl⟩
  go_wp2_with fail
  go_loopw [7, 8, 9] (fun vl _ _ wr => ∃ (m : Nat) (la : Option Addr) (lc : Nat), 1 ≤ m ∧ vl = .slice la m lc ∧ wr.ownsRow w.heap.size 3 1 (.slice la m lc) m (nC (pwL A.k.toNat N i m)) ∧ (∀ a b, a < b → b < m → pwN A.k.toNat N i a ≠ pwN A.k.toNat N i b) ∧ Below w.heap.size w wr) (fun vl _ _ _ => T + R + 1 - lenV vl)
  case atStart => exact ⟨1, _, _, Nat.le_refl _, rfl, HST.out, fun a b h1 h2 => by omega, HBN.out⟩
  case round =>
    clear HST HBN
    obtain ⟨m, la, lc, hm1, rfl, ho, hap, hb⟩ := hrel
    obtain ⟨w2, hw2⟩ : ∃ z, z = wr := ⟨_, rfl⟩
    subst hw2
    have HB : Hid (Below w.heap.size w w2) := hb
    have HO : Hid (w2.ownsRow w.heap.size 3 1 (.slice la m lc) m (nC (pwL A.k.toNat N i m))) := ho
    have HAP : Hid (∀ a b, a < b → b < m → pwN A.k.toNat N i a ≠ pwN A.k.toNat N i b) := hap
    have hmTR : m ≤ T + R := by
      rcases Nat.lt_or_ge (T + R) m with q | q
      · exact absurd (show pwN A.k.toNat N i T = pwN A.k.toNat N i (T + R) from HTR.out.back.symm) (hap T (T + R) (by have := HTR.out.pos; omega) q)
      · exact q
    obtain ⟨g, o, e, hg, hc⟩ := own_sr ho (m - 1) _ (pwL_at (show m - 1 < m by omega))
    subst e
    obtain ⟨z, hz⟩ : ∃ z, pwN A.k.toNat N i (m - 1) = z := ⟨_, rfl⟩
    have hzl : z < M.length := by rw [← hz]; exact HMon.out.pw_lt HI.out _
    rw [hz] at hc
    have HX : Hid (pr A.k.toNat N z i = pwN A.k.toNat N i m) := by
      show _ = _
      rw [← hz, ← pwN_succ, show m - 1 + 1 = m by omega]
    have hmI : IntKind.i64.wrap ((m : Int) - 1) = ((m - 1 : Nat) : Int) := by rw [IntKind.wrap_i64]; omega
    have hmlt : ((m - 1 : Nat) : Int) < (m : Int) := by omega
    have HTM : Hid (Calls Try.prog 52 #[.pointer (some ⟨rb, 0, none⟩), .int .i64 (z : Nat), .int .i64 (i : Nat)] w2 fun e w' => e = .returned (.int .i64 (pr A.k.toNat N z i : Nat)) ∧ Below w2.heap.size w2 w') := rtimes_any (HM.out _ hb) z i hzl HI.out
    have HM1 : Hid (1 ≤ m) := hm1
    obtain ⟨q, hq⟩ : ∃ q, m - 1 = q := ⟨_, rfl⟩
    rw [hq] at hc hmI hmlt
    clear ho hap hb hz hzl hm1 hq
    go_wp2_with fail
    refine HTM.out.mono ?_
    rintro e w3 ⟨rfl, hb⟩
    rw [HX.out]
    obtain ⟨x, hx⟩ : ∃ x, pwN A.k.toNat N i m = x := ⟨_, rfl⟩
    have HXX : Hid (pwN A.k.toNat N i m = x) := hx
    have HB3 : Hid (Below w.heap.size w w3) := go_on HB.out hb
    have HO3 : Hid (w3.ownsRow w.heap.size 3 1 (.slice (some ⟨g, o, none⟩) m lc) m (nC (pwL A.k.toNat N i m))) := own_below HO.out hb
    rw [hx]
    clear hb hx hc hmI hmlt HTM HX HO HB hg
    go_wp2_with fail
    go_loopw [9] (fun vk wr => ∃ k : Nat, vk = .int .i64 k ∧ k ≤ m ∧ (∀ a, a < k → pwN A.k.toNat N i a ≠ x) ∧ wr = w3) (fun vk _ => m - (Go.RowKit.intOf vk).toNat)
    case atStart => exact ⟨0, rfl, Nat.zero_le _, fun a ha => by omega, rfl⟩
    case round =>
      obtain ⟨k, rfl, hkm, hall, rfl⟩ := hrel
      have HA : Hid (∀ a, a < k → pwN A.k.toNat N i a ≠ x) := hall
      clear hall
      by_cases hlt : k < m
      · have hkI : (k : Int) < m := by omega
        have hkd : decide ((k : Int) < m) = true := decide_eq_true hkI
        obtain ⟨g', o', e, hg', hc⟩ := own_sr HO3.out k _ (pwL_at hlt)
        simp only [Option.some.injEq, Addr.mk.injEq, and_true] at e
        obtain ⟨rfl, rfl⟩ := e
        obtain ⟨y, hy⟩ : ∃ y, pwN A.k.toNat N i k = y := ⟨_, rfl⟩
        have HY : Hid (pwN A.k.toNat N i k = y) := hy
        rw [hy] at hc
        by_cases hyx : y = x
        · have hbe : ((y : Int) == (x : Int)) = true := by rw [beq_iff_eq, hyx]
          have HT : Hid (TR (rm A.k.toNat N i) 0 k (m - k)) := ⟨fun a b h1 h2 => HAP.out a b h1 (by omega), by
            show pwN A.k.toNat N i (k + (m - k)) = pwN A.k.toNat N i k
            rw [show k + (m - k) = m by omega, HXX.out, HY.out, hyx], by omega⟩
          have hsb : IntKind.i64.wrap ((m : Int) - (k : Int)) = ((m - k : Nat) : Int) := by rw [IntKind.wrap_i64]; omega
          obtain ⟨d, hd⟩ : ∃ d, m - k = d := ⟨_, rfl⟩
          rw [hd] at HT hsb
          clear hy hyx hd hg'
          go_wp2_with fail
          go_ret3
          exact ⟨⟨k, d, rfl, HT.out⟩, HB3.out⟩
        · have hbe : ((y : Int) == (x : Int)) = false := by rw [beq_eq_false_iff_ne]; omega
          have HN : Hid (∀ a, a < k + 1 → pwN A.k.toNat N i a ≠ x) := fun a ha => by
            by_cases e : a = k
            · subst e; rw [HY.out]; exact hyx
            · exact HA.out a (by omega)
          clear hy hyx hg'
          go_wp2_with fail
          go_roundw
          case rel => exact ⟨k + 1, by go_num, by omega, HN.out, by trivial⟩
          case measure => simp [Go.RowKit.intOf]; omega
      · have hkI : ¬ (k : Int) < m := by omega
        have hkd : decide ((k : Int) < m) = false := decide_eq_false hkI
        have hke : k = m := by omega
        have HNW : Hid (∀ a b, a < b → b < m + 1 → pwN A.k.toNat N i a ≠ pwN A.k.toNat N i b) := fun a b h1 h2 => by
          by_cases e : b = m
          · subst e; rw [HXX.out]; exact HA.out a (by omega)
          · exact HAP.out a b h1 (by omega)
        have HLL : Hid (nC (pwL A.k.toNat N i (m + 1)) = nC (pwL A.k.toNat N i m) ++ [.int .i64 (x : Int)]) := by
          show _ = _
          rw [pwL_succ, nC_append, HXX.out]
          rfl
        have hs3 := HB3.out.size
        clear hke
        go_wp2_with (first
          | (at_builtin; refine wpList_append_own_at _ rfl _ _ 23 rfl w.heap.size 3 i0 (.int .i64 0) 1 8 Try.underlying23 hi0 hz0 hz1 hz2 rfl (by decide) _ _ _ rfl (World.ownsRow.alloc HO3.out _) ⟨wr.heap.size, 0, none⟩ 1 1 [.int .i64 (x : Int)] rfl rfl (cell_one_new _ _ _) (by intro u hu; simp at hu; subst hu; rfl) (by unfold maxLen; omega) (by omega) (by simp; omega) ?_; intro v' w5 hown' hgrow _ hloc))
        have HB5 : Hid (Below w.heap.size w w5) := (go_on HB3.out (below_new _ _)).grown hgrow (by simp; omega) (fun k hk => (own_blk HO3.out hk).1)
        obtain ⟨oa4, oc4, hsh⟩ := own_shape hown'
        have HSH : Hid (v' = .slice oa4 (m + 1) oc4) := hsh
        have HO5 : Hid (w5.ownsRow w.heap.size 3 1 (.slice oa4 (m + 1) oc4) (m + 1) (nC (pwL A.k.toNat N i (m + 1)))) := by
          show World.ownsRow _ _ _ _ _ _ _
          rw [HLL.out, ← hsh]
          exact hown'
        clear hown' hgrow hloc hsh
        go_roundw
        case rel => exact ⟨m + 1, oa4, oc4, by omega, HSH.out, HO5.out, HNW.out, HB5.out⟩
        case measure => rw [HSH.out]; simp only [lenV]; omega

set_option maxHeartbeats 1000000 in
set_option maxRecDepth 100000 in
theorem rcycle_not {w : World} {rb : Nat} {A : Aut} {M : List (List Nat)} {N : List Nat} (h : RF w rb A M N) (i : Int) (hi : ¬ hasE M.length i = true) :
    Calls Try.prog 18 #[.pointer (some ⟨rb, 0, none⟩), .int .i64 i] w fun e w' => e = .returned (.tuple #[.int .i64 0, .int .i64 0, .int .i64 11]) ∧ Below w.heap.size w w' := by
  have C0 : Hid (Calls Try.prog 45 #[.pointer (some ⟨rb, 0, none⟩), .int .i64 i] w fun e w' => e = .returned (.bool false) ∧ w = w') := by have := rhas_any h i; rw [Bool.eq_false_iff.2 hi] at this; exact this
  clear h hi
  go_enter Try.func18, Try.ntmps18
  go_wp2_with fail
  refine C0.out.mono ?_
  rintro e w1 ⟨rfl, rfl⟩
  go_wp2_with fail
  go_ret3
  exact ⟨rfl, Below.refl _ _⟩

set_option maxHeartbeats 4000000 in
set_option maxRecDepth 100000 in
theorem rexponent_any {w : World} {rb : Nat} {A : Aut} {M : List (List Nat)} {N : List Nat} (h : RF w rb A M N) :
    Calls Try.prog 22 #[.pointer (some ⟨rb, 0, none⟩)] w fun e w' => (∃ s l, ExI A.k.toNat N M.length s l ∧ e = .returned (.int .i64 (exV s l : Nat))) ∧ Below w.heap.size w w' := by
  have HM : Hid (∀ y, Below w.heap.size w y → RF y rb A M N) := fun y hy => h.below hy
  have HMon : Hid (Mon A M N) := h.mon
  have hms := h.mon.most
  clear h
  go_enter Try.func22, Try.ntmps22
  go_wp2_with fail
  go_loopw [3, 4, 5, 6, 7, 8, 9] (fun vs vl vi _ _ _ _ wr => ∃ i s l : Nat, i ≤ M.length ∧ vi = .int .i64 (i : Nat) ∧ vs = .int .i64 (s : Nat) ∧ vl = .int .i64 (l : Nat) ∧ ExI A.k.toNat N i s l ∧ Below w.heap.size w wr) (fun _ _ vi _ _ _ _ _ => M.length - (Go.RowKit.intOf vi).toNat)
  case atStart => exact ⟨0, 1, 1, Nat.zero_le _, rfl, rfl, rfl, ExI.start _ _, Below.refl _ _⟩
  case round =>
    obtain ⟨i, s, l, hi, rfl, rfl, rfl, hx, hb⟩ := hrel
    have HX : Hid (ExI A.k.toNat N i s l) := hx
    have HB : Hid (Below w.heap.size w wr) := hb
    have hsm := hx.small HMon.out hi
    clear hx hb
    by_cases hlt : i < M.length
    · have hiI : (i : Int) < M.length := by omega
      have HLT : Hid (i < M.length) := hlt
      go_wp2_with fail
      refine (rlen_any (HM.out _ HB.out)).mono ?_
      rintro e w1 ⟨rfl, rfl⟩
      go_wp2_with fail
      refine (rcycle_any (HM.out _ HB.out) i HLT.out).mono ?_
      rintro e w2 ⟨⟨t, r, rfl, hR⟩, hb⟩
      have HB2 : Hid (Below w.heap.size w w2) := go_on HB.out hb
      have hX2 := HX.out.next hR
      have hsm2 := hX2.small HMon.out (show i + 1 ≤ M.length from hlt)
      have hle := hR.le (HMon.out.rm_lt hlt) HMon.out.pos
      have hr1 := hR.pos
      have HX2 : Hid (ExI A.k.toNat N (i + 1) (Nat.lcm s r) (Nat.max l t)) := hX2
      obtain ⟨s2, hs2⟩ : ∃ s2, Nat.lcm s r = s2 := ⟨_, rfl⟩
      have HS2 : Hid (Nat.lcm s r = s2) := hs2
      have hd1 : s ∣ s2 := by rw [← hs2]; exact Nat.dvd_lcm_left s r
      have hd2 : r ∣ s2 := by rw [← hs2]; exact Nat.dvd_lcm_right s r
      rw [hs2] at HX2 hsm2
      have HD : Hid (s ∣ s2 ∧ r ∣ s2) := ⟨hd1, hd2⟩
      have hs2s : s ≤ s2 := Nat.le_of_dvd (by omega) hd1
      clear hb hR hX2 hs2 hd1 hd2
      go_wp2_with fail
      go_loopw [9] (fun vn wr => ∃ n : Nat, vn = .int .i64 n ∧ 1 ≤ n ∧ n ≤ s2 ∧ s ∣ n ∧ wr = w2) (fun vn _ => s2 - (Go.RowKit.intOf vn).toNat)
      case atStart => exact ⟨s, rfl, hsm.1, hs2s, Nat.dvd_refl _, rfl⟩
      case round =>
        obtain ⟨n, rfl, hn1, hn2, hn3, rfl⟩ := hrel
        have HN3 : Hid (s ∣ n) := hn3
        have hr0 : ¬ (r : Int) = 0 := by omega
        have hr0b : ((r : Int) == 0) = false := by rw [beq_eq_false_iff_ne]; omega
        have hr0c : (0 : Int) < r := by omega
        have htm : (n : Int).tmod r = ((n % r : Nat) : Int) := by rw [Int.tmod_eq_emod_of_nonneg (by omega)]; omega
        obtain ⟨z, hz⟩ : ∃ z, n % r = z := ⟨_, rfl⟩
        have HZ : Hid (n % r = z) := hz
        have hzl : z < r := by rw [← hz]; exact Nat.mod_lt _ (by omega)
        have hwz : IntKind.i64.wrap (z : Int) = (z : Int) := by rw [IntKind.wrap_i64]; omega
        rw [hz] at htm
        clear hz hn3
        by_cases hz0 : z = 0
        · have HE : Hid (n = s2) := by
            have h1 : r ∣ n := Nat.dvd_of_mod_eq_zero (by rw [HZ.out, hz0])
            have h2 : s2 ∣ n := by rw [← HS2.out]; exact Nat.lcm_dvd HN3.out h1
            exact Nat.le_antisymm hn2 (Nat.le_of_dvd (by omega) h2)
          have hz1 : ((z : Int) == 0) = true := by rw [beq_iff_eq]; omega
          have hz2 : ((z : Int) != 0) = false := by rw [bne_eq_false_iff_eq]; omega
          have hz3 : (z : Int) = 0 := by omega
          by_cases hlt2 : l < t
          · have hl1 : (l : Int) < (t : Int) := by omega
            have hl2 : decide ((l : Int) < (t : Int)) = true := decide_eq_true hl1
            have HMX : Hid (Nat.max l t = t) := Nat.max_eq_right (by omega)
            clear hz0 hlt2
            go_wp2_with fail
            go_roundw
            case rel => exact ⟨i + 1, s2, t, HLT.out, by go_num, by rw [HE.out], rfl, by have := HX2.out; rw [HMX.out] at this; exact this, HB2.out⟩
            case measure => have := HLT.out; simp [Go.RowKit.intOf]; omega
          · have hl1 : ¬ (l : Int) < (t : Int) := by omega
            have hl2 : decide ((l : Int) < (t : Int)) = false := decide_eq_false hl1
            have HMX : Hid (Nat.max l t = l) := Nat.max_eq_left (by omega)
            clear hz0 hlt2
            go_wp2_with fail
            go_roundw
            case rel => exact ⟨i + 1, s2, l, HLT.out, by go_num, by rw [HE.out], rfl, by have := HX2.out; rw [HMX.out] at this; exact this, HB2.out⟩
            case measure => have := HLT.out; simp [Go.RowKit.intOf]; omega
        · have hz1 : ((z : Int) == 0) = false := by rw [beq_eq_false_iff_ne]; omega
          have hz2 : ((z : Int) != 0) = true := by rw [bne_iff_ne]; omega
          have hz3 : ¬ (z : Int) = 0 := by omega
          have hne : n ≠ s2 := fun e => by
            have h1 := Nat.mod_eq_zero_of_dvd HD.out.2
            rw [← e, HZ.out] at h1
            exact hz0 h1
          have hns : n + s ≤ s2 := by
            obtain ⟨a, ha⟩ := HN3.out
            obtain ⟨b, hb⟩ := HD.out.1
            have hab : a < b := by
              rcases Nat.lt_or_ge a b with q | q
              · exact q
              · have := Nat.mul_le_mul_left s q
                omega
            have := Nat.mul_le_mul_left s hab
            rw [Nat.mul_succ] at this
            omega
          have HNX : Hid (s ∣ n + s ∧ n + s ≤ s2 ∧ 1 ≤ s) := ⟨Nat.dvd_add HN3.out (Nat.dvd_refl _), hns, hsm.1⟩
          have hwn : IntKind.i64.wrap ((n : Int) + (s : Int)) = ((n + s : Nat) : Int) := by rw [IntKind.wrap_i64]; omega
          obtain ⟨q, hq⟩ : ∃ q, n + s = q := ⟨_, rfl⟩
          have HQ : Hid (n + s = q) := hq
          rw [hq] at hwn
          clear hz0 hne hns hq
          go_wp2_with fail
          go_roundw
          case rel => exact ⟨q, rfl, by have := HQ.out; omega, by have := HQ.out; have := HNX.out; omega, by have := HNX.out.1; rw [HQ.out] at this; exact this, by trivial⟩
          case measure => have := HQ.out; have := HNX.out; simp [Go.RowKit.intOf]; omega
    · have hiI : ¬ (i : Int) < M.length := by omega
      have e : i = M.length := by omega
      have HX' : Hid (ExI A.k.toNat N M.length s l) := by show ExI _ _ _ _ _; rw [← e]; exact HX.out
      have hf := exV_facts hsm.1 hsm.2.2.1
      have hw1 : IntKind.i64.wrap ((l : Int) + (s : Int)) = ((l + s : Nat) : Int) := by rw [IntKind.wrap_i64]; omega
      have hw2 : IntKind.i64.wrap (((l + s : Nat) : Int) - 1) = ((l + s - 1 : Nat) : Int) := by rw [IntKind.wrap_i64]; omega
      obtain ⟨a, ha⟩ : ∃ a, l + s - 1 = a := ⟨_, rfl⟩
      obtain ⟨b, hb2⟩ : ∃ b, l + s = b := ⟨_, rfl⟩
      obtain ⟨c, hc⟩ : ∃ c, a / s = c := ⟨_, rfl⟩
      obtain ⟨d, hd⟩ : ∃ d, exV s l = d := ⟨_, rfl⟩
      have HD : Hid (exV s l = d) := hd
      have hcs : c * s = d := by rw [← hd, ← hc, ← ha]; rfl
      have hca : c ≤ a := by rw [← hc]; exact Nat.div_le_self _ _
      rw [hd] at hf
      have hq : (a : Int).tdiv s = (c : Int) := by rw [Int.tdiv_eq_ediv_of_nonneg (by omega), ← hc]; rfl
      have hs0 : ¬ (s : Int) = 0 := by omega
      have hs1 : ((s : Int) == 0) = false := by rw [beq_eq_false_iff_ne]; omega
      have hwc : IntKind.i64.wrap (c : Int) = (c : Int) := by rw [IntKind.wrap_i64]; omega
      have hmu : (c : Int) * (s : Int) = (d : Int) := by rw [← hcs]; push_cast; rfl
      have hwd : IntKind.i64.wrap (d : Int) = (d : Int) := by rw [IntKind.wrap_i64]; omega
      rw [ha] at hw2
      rw [hb2] at hw1 hw2
      clear e hf ha hb2 hc hd hcs hca hsm
      go_wp2_with fail
      refine (rlen_any (HM.out _ HB.out)).mono ?_
      rintro e w1 ⟨rfl, rfl⟩
      go_wp2_with fail
      go_ret
      exact ⟨⟨s, l, HX'.out, by rw [HD.out]; rfl⟩, HB.out⟩

end Go.Proofs.Ytafcejipoioigaa

namespace Go.Proofs.Ytafcejipoioigaa
open Go Go.RowKit Go.Lib Go.Maps
set_option linter.unusedVariables false

/-- No monoid, or one whose mark is nil. -/
def NoM (w : World) (x : Value) : Prop := x = .pointer none ∨ ∃ b, x = .pointer (some ⟨b, 0, none⟩) ∧ b < w.heap.size ∧ w.cell? ⟨b, 0, none⟩ = some (.pointer none)

theorem NoM.below {w w' : World} {x : Value} (h : NoM w x) (hb : Below w.heap.size w w') : NoM w' x := by
  rcases h with h | ⟨b, h1, h2, h3⟩
  · exact .inl h
  · exact .inr ⟨b, h1, Nat.lt_of_lt_of_le h2 hb.size, by rw [below_cellJ hb h2]; exact h3⟩

theorem eq_nilM (a : Addr) (w : World) : (binOp .eql 22 (.pointer none) (.pointer (some a))).run Try.prog w = .ok (.bool false) w := by
  simp only [binOp]
  simp only [Op.equal, Op.maxDepth]
  rw [show (10000 : Nat) = 9999 + 1 from rfl, Op.equalIn]
  simp [Sem.run_bind, run_underlying Try.underlying22]

set_option maxHeartbeats 1000000 in
set_option maxRecDepth 100000 in
theorem mmade_no (x : Value) (w : World) (h : NoM w x) : Calls Try.prog 64 #[x] w fun e w' => e = .returned (.bool false) ∧ w = w' := by
  rcases h with rfl | ⟨b, rfl, hb, hc⟩
  · go_enter Try.func64, Try.ntmps64
    go_wp2_with fail
    go_ret
    exact ⟨rfl, rfl⟩
  · have heq := eq_nilM ⟨b, 0, none⟩ w
    go_enter Try.func64, Try.ntmps64
    go_wp2_with fail
    go_ret
    exact ⟨rfl, rfl⟩

set_option maxHeartbeats 1000000 in
set_option maxRecDepth 100000 in
theorem mlen_no (x : Value) (w : World) (h : NoM w x) : Calls Try.prog 34 #[x] w fun e w' => e = .returned (.int .i64 0) ∧ w = w' := by
  have HX : Hid (NoM w x) := h
  clear h
  go_enter Try.func34, Try.ntmps34
  go_wp2_with (go_at_call 64; refine (mmade_no _ _ HX.out).mono ?_; rintro e w1 ⟨rfl, rfl⟩)
  go_ret
  exact ⟨rfl, rfl⟩

set_option maxHeartbeats 1000000 in
set_option maxRecDepth 100000 in
theorem mcheck_no (x : Value) (i : Int) (w : World) (h : NoM w x) : Calls Try.prog 66 #[x, .int .i64 i] w fun e w' => e = .returned (.int .i64 1) ∧ w = w' := by
  have HX : Hid (NoM w x) := h
  clear h
  go_enter Try.func66, Try.ntmps66
  go_wp2_with (go_at_call 64; refine (mmade_no _ _ HX.out).mono ?_; rintro e w1 ⟨rfl, rfl⟩)
  go_ret
  exact ⟨rfl, rfl⟩

set_option maxHeartbeats 1000000 in
set_option maxRecDepth 100000 in
theorem mProduct_no (x : Value) (i j : Int) (w : World) (h : NoM w x) : Calls Try.prog 65 #[x, .int .i64 i, .int .i64 j] w fun e w' => e = .returned (.tuple #[.int .i64 0, .int .i64 1]) ∧ w = w' := by
  have HX : Hid (NoM w x) := h
  clear h
  go_enter Try.func65, Try.ntmps65
  go_wp2_with (go_at_call 66; refine (mcheck_no _ _ _ HX.out).mono ?_; rintro e w1 ⟨rfl, rfl⟩)
  go_ret2
  exact ⟨rfl, rfl⟩

set_option maxHeartbeats 1000000 in
set_option maxRecDepth 100000 in
theorem mPower_no (x : Value) (i k : Int) (w : World) (h : NoM w x) : Calls Try.prog 37 #[x, .int .i64 i, .int .u64 k] w fun e w' => e = .returned (.tuple #[.int .i64 0, .int .i64 1]) ∧ w = w' := by
  have HX : Hid (NoM w x) := h
  clear h
  go_enter Try.func37, Try.ntmps37
  go_wp2_with (go_at_call 66; refine (mcheck_no _ _ _ HX.out).mono ?_; rintro e w1 ⟨rfl, rfl⟩)
  go_ret2
  exact ⟨rfl, rfl⟩

end Go.Proofs.Ytafcejipoioigaa

namespace Go.Proofs.Ytafcejipoioigaa
open Go Go.RowKit Go.Lib Go.Maps
set_option linter.unusedVariables false
attribute [-instance] List.instBEq instBEqProd

theorem num16_any (n : Int) (w : World) : Calls Try.prog 21 #[.int .i64 n] w fun e w' => e = .returned (.int .i64 n) ∧ w = w' := by
  go_enter Try.func21, Try.ntmps21
  go_wp2
  go_ret
  exact ⟨rfl, rfl⟩

theorem drew_twiceE (w : World) (q n : Nat) : (w.drewN q).drewN n = w.drewN (q + n) := by simp [World.drewN, Nat.add_assoc]

theorem drewN_belowE (w : World) (q : Nat) : Below w.heap.size w (w.drewN q) := ⟨rfl, rfl, rfl, Nat.le_refl _, fun _ _ => rfl⟩

set_option maxHeartbeats 1000000 in
set_option maxRecDepth 100000 in
theorem isame_any (a1 a2 : Option Addr) (c1 c2 : Nat) (xs : List Int) (w : World) (g1 : SR w a1 (zC xs)) (g2 : SR w a2 (zC xs)) (hm1 : xs.length ≤ 9223372036854775806) :
    Calls Try.prog 23 #[.slice a1 xs.length c1, .slice a2 xs.length c2] w fun e w' => e = .returned (.bool true) ∧ Below w.heap.size w w' := by
  have H1 : Hid (SR w a1 (zC xs)) := g1
  have H2 : Hid (SR w a2 (zC xs)) := g2
  clear g1 g2
  go_enter Try.func23, Try.ntmps23
  go_wp2_with fail
  go_loopw [5] (fun vi wr => ∃ i q : Nat, vi = .int .i64 i ∧ i ≤ xs.length ∧ wr = w.drewN q) (fun vi _ => xs.length - (Go.Lib.intOf vi).toNat)
  case atStart => exact ⟨0, 0, rfl, Nat.zero_le _, rfl⟩
  case round =>
    obtain ⟨i, q, rfl, hi, rfl⟩ := hrel
    by_cases hlt : i < xs.length
    · obtain ⟨ga, oa, rfl, _, ca⟩ := H1.out.int hlt
      obtain ⟨gb, ob, rfl, _, cb⟩ := H2.out.int hlt
      obtain ⟨x, hx⟩ : ∃ x, xs.getD i 0 = x := ⟨_, rfl⟩
      rw [hx] at ca cb
      clear hx
      go_wp2_with fail
      go_quiet (fail)
      go_wp2
      go_roundw
      case rel => exact ⟨i + 1, _, by go_num, by omega, rfl⟩
      case measure => simp [Go.Lib.intOf]; omega
    · have hiI : ¬ (i : Int) < xs.length := by omega
      go_wp2_with fail
      go_ret
      exact ⟨rfl, drewN_belowE w q⟩

set_option maxHeartbeats 1000000 in
set_option maxRecDepth 100000 in
theorem icheck_no (p : Option Addr) (a : Option Addr) (n c : Nat) (w : World) (h : NoM w (.pointer p)) : Calls Try.prog 43 #[.pointer p, .slice a n c] w fun e w' => e = .returned (.int .i64 1) ∧ w = w' := by
  have HX : Hid (NoM w (.pointer p)) := h
  clear h
  go_enter Try.func43, Try.ntmps43
  go_wp2_with fail
  refine (mlen_no _ _ HX.out).mono ?_
  rintro e w1 ⟨rfl, rfl⟩
  go_wp2_with fail
  go_ret
  exact ⟨rfl, rfl⟩

set_option maxHeartbeats 1000000 in
set_option maxRecDepth 100000 in
theorem icheckI_no (p : Option Addr) (a : Option Addr) (n c : Nat) (w : World) (h : NoM w (.pointer p)) : Calls Try.prog 57 #[.pointer p, .slice a n c] w fun e w' => e = .returned (.int .i64 1) ∧ w = w' := by
  have HX : Hid (NoM w (.pointer p)) := h
  clear h
  go_enter Try.func57, Try.ntmps57
  go_wp2_with fail
  refine (icheck_no _ _ _ _ _ HX.out).mono ?_
  rintro e w1 ⟨rfl, rfl⟩
  go_wp2_with fail
  go_ret
  exact ⟨rfl, rfl⟩

set_option maxHeartbeats 1000000 in
set_option maxRecDepth 100000 in
theorem iIdempotent_no (p : Option Addr) (w : World) (h : NoM w (.pointer p)) : Calls Try.prog 12 #[.pointer p, .int .i64 0] w fun e w' => e = .returned (.tuple #[.bool false, .int .i64 1]) ∧ Below w.heap.size w w' := by
  have HB : Hid (Below w.heap.size w (w.alloc (.cells #[.int .i64 0] 3))) := (go_on (Below.refl _ _) (below_new _ _))
  have HX : Hid (NoM (w.alloc (.cells #[.int .i64 0] 3)) (.pointer p)) := h.below HB.out
  clear h
  go_enter Try.func12, Try.ntmps12
  go_wp2_with fail
  refine (icheck_no _ _ _ _ _ HX.out).mono ?_
  rintro e w1 ⟨rfl, rfl⟩
  go_wp2_with fail
  go_ret2
  exact ⟨rfl, HB.out⟩

set_option maxHeartbeats 1000000 in
set_option maxRecDepth 100000 in
theorem iList_no (p : Option Addr) (w : World) (h : NoM w (.pointer p)) : Calls Try.prog 14 #[.pointer p] w fun e w' => e = .returned (.tuple #[.slice none 0 0, .int .i64 1]) ∧ Below w.heap.size w w' := by
  have HB : Hid (Below w.heap.size w (w.alloc (.cells #[.pointer p] 22))) := (go_on (Below.refl _ _) (below_new _ _))
  have HX : Hid (NoM (w.alloc (.cells #[.pointer p] 22)) (.pointer p)) := h.below HB.out
  clear h
  go_enter Try.func14, Try.ntmps14
  go_wp2_with fail
  refine (icheck_no _ _ _ _ _ HX.out).mono ?_
  rintro e w1 ⟨rfl, rfl⟩
  go_wp2_with fail
  go_ret2
  exact ⟨rfl, HB.out⟩

set_option maxHeartbeats 1000000 in
set_option maxRecDepth 100000 in
theorem iOmega_no (p : Option Addr) (w : World) (h : NoM w (.pointer p)) : Calls Try.prog 15 #[.pointer p, .int .i64 0] w fun e w' => e = .returned (.tuple #[.int .i64 0, .int .i64 1]) ∧ Below w.heap.size w w' := by
  have HB : Hid (Below w.heap.size w ((w.alloc (.cells #[.pointer p] 22)).alloc (.cells #[.int .i64 0] 3))) := (go_on ((go_on (Below.refl _ _) (below_new _ _))) (below_new _ _))
  have HX : Hid (NoM ((w.alloc (.cells #[.pointer p] 22)).alloc (.cells #[.int .i64 0] 3)) (.pointer p)) := h.below HB.out
  clear h
  go_enter Try.func15, Try.ntmps15
  go_wp2_with fail
  refine (icheck_no _ _ _ _ _ HX.out).mono ?_
  rintro e w1 ⟨rfl, rfl⟩
  go_wp2_with fail
  go_ret2
  exact ⟨rfl, HB.out⟩

set_option maxHeartbeats 1000000 in
set_option maxRecDepth 100000 in
theorem iCycle_no (p : Option Addr) (w : World) (h : NoM w (.pointer p)) : Calls Try.prog 17 #[.pointer p, .int .i64 0] w fun e w' => e = .returned (.tuple #[.int .i64 0, .int .i64 0, .int .i64 1]) ∧ Below w.heap.size w w' := by
  have HB : Hid (Below w.heap.size w (w.alloc (.cells #[.int .i64 0] 3))) := (go_on (Below.refl _ _) (below_new _ _))
  have HX : Hid (NoM (w.alloc (.cells #[.int .i64 0] 3)) (.pointer p)) := h.below HB.out
  clear h
  go_enter Try.func17, Try.ntmps17
  go_wp2_with fail
  refine (icheck_no _ _ _ _ _ HX.out).mono ?_
  rintro e w1 ⟨rfl, rfl⟩
  go_wp2_with fail
  go_ret3
  exact ⟨rfl, HB.out⟩

set_option maxHeartbeats 1000000 in
set_option maxRecDepth 100000 in
theorem iExponent_no (p : Option Addr) (w : World) (h : NoM w (.pointer p)) : Calls Try.prog 19 #[.pointer p] w fun e w' => e = .returned (.tuple #[.int .i64 0, .int .i64 1]) ∧ Below w.heap.size w w' := by
  have HB : Hid (Below w.heap.size w w) := Below.refl _ _
  have HX : Hid (NoM w (.pointer p)) := h.below HB.out
  clear h
  go_enter Try.func19, Try.ntmps19
  go_wp2_with fail
  refine (icheck_no _ _ _ _ _ HX.out).mono ?_
  rintro e w1 ⟨rfl, rfl⟩
  go_wp2_with fail
  go_ret2
  exact ⟨rfl, HB.out⟩

set_option maxHeartbeats 1000000 in
set_option maxRecDepth 100000 in
theorem iRegular_no (p : Option Addr) (w : World) (h : NoM w (.pointer p)) : Calls Try.prog 25 #[.pointer p, .int .i64 0] w fun e w' => e = .returned (.tuple #[.bool false, .int .i64 1]) ∧ Below w.heap.size w w' := by
  have HB : Hid (Below w.heap.size w (w.alloc (.cells #[.int .i64 0] 3))) := (go_on (Below.refl _ _) (below_new _ _))
  have HX : Hid (NoM (w.alloc (.cells #[.int .i64 0] 3)) (.pointer p)) := h.below HB.out
  clear h
  go_enter Try.func25, Try.ntmps25
  go_wp2_with fail
  refine (icheck_no _ _ _ _ _ HX.out).mono ?_
  rintro e w1 ⟨rfl, rfl⟩
  go_wp2_with fail
  go_ret2
  exact ⟨rfl, HB.out⟩

set_option maxHeartbeats 1000000 in
set_option maxRecDepth 100000 in
theorem iInverses_no (p : Option Addr) (w : World) (h : NoM w (.pointer p)) : Calls Try.prog 27 #[.pointer p, .int .i64 0] w fun e w' => e = .returned (.tuple #[.slice none 0 0, .int .i64 1]) ∧ Below w.heap.size w w' := by
  have HB : Hid (Below w.heap.size w (((w.alloc (.cells #[.pointer p] 22)).alloc (.cells #[.int .i64 0] 3)).alloc (.cells #[.int .i64 0] 3))) := (go_on ((go_on ((go_on (Below.refl _ _) (below_new _ _))) (below_new _ _))) (below_new _ _))
  have HX : Hid (NoM (((w.alloc (.cells #[.pointer p] 22)).alloc (.cells #[.int .i64 0] 3)).alloc (.cells #[.int .i64 0] 3)) (.pointer p)) := h.below HB.out
  clear h
  go_enter Try.func27, Try.ntmps27
  go_wp2_with fail
  refine (icheck_no _ _ _ _ _ HX.out).mono ?_
  rintro e w1 ⟨rfl, rfl⟩
  go_wp2_with fail
  go_ret2
  exact ⟨rfl, HB.out⟩

set_option maxHeartbeats 1000000 in
set_option maxRecDepth 100000 in
theorem iBelow_no (p : Option Addr) (w : World) (h : NoM w (.pointer p)) : Calls Try.prog 29 #[.pointer p, .int .i64 0, .int .i64 0] w fun e w' => e = .returned (.tuple #[.bool false, .int .i64 1]) ∧ Below w.heap.size w w' := by
  have HB : Hid (Below w.heap.size w (w.alloc (.cells #[.int .i64 0, .int .i64 0] 3))) := (go_on (Below.refl _ _) (below_new _ _))
  have HX : Hid (NoM (w.alloc (.cells #[.int .i64 0, .int .i64 0] 3)) (.pointer p)) := h.below HB.out
  clear h
  go_enter Try.func29, Try.ntmps29
  go_wp2_with fail
  refine (icheckI_no _ _ _ _ _ HX.out).mono ?_
  rintro e w1 ⟨rfl, rfl⟩
  go_wp2_with fail
  go_ret2
  exact ⟨rfl, HB.out⟩

set_option maxHeartbeats 1000000 in
set_option maxRecDepth 100000 in
theorem iBetween_no (p : Option Addr) (w : World) (h : NoM w (.pointer p)) : Calls Try.prog 31 #[.pointer p, .int .i64 0] w fun e w' => e = .returned (.tuple #[.slice none 0 0, .int .i64 1]) ∧ Below w.heap.size w w' := by
  have HB : Hid (Below w.heap.size w (((w.alloc (.cells #[.pointer p] 22)).alloc (.cells #[.int .i64 0] 3)).alloc (.cells #[.int .i64 0] 3))) := (go_on ((go_on ((go_on (Below.refl _ _) (below_new _ _))) (below_new _ _))) (below_new _ _))
  have HX : Hid (NoM (((w.alloc (.cells #[.pointer p] 22)).alloc (.cells #[.int .i64 0] 3)).alloc (.cells #[.int .i64 0] 3)) (.pointer p)) := h.below HB.out
  clear h
  go_enter Try.func31, Try.ntmps31
  go_wp2_with fail
  refine (icheckI_no _ _ _ _ _ HX.out).mono ?_
  rintro e w1 ⟨rfl, rfl⟩
  go_wp2_with fail
  go_ret2
  exact ⟨rfl, HB.out⟩

end Go.Proofs.Ytafcejipoioigaa

namespace Go.Proofs.Ytafcejipoioigaa
open Go Go.RowKit Go.Lib
set_option linter.unusedVariables false

/-- Numbers as cells. -/
def intCells (l : List Nat) : List Value := l.map fun (n : Nat) => Value.int .i64 (n : Int)
theorem intCells_append (a b : List Nat) : intCells (a ++ b) = intCells a ++ intCells b := by simp [intCells]

/-- A row hangs on its own block alone. -/
theorem own_of_heap {w w' : World} {B : Nat} {e : TypeId} {size n : Nat} {v : Value} {xs : List Value} (h : w.ownsRow B e size v n xs) (hk : ∀ b, v.ownBlock = some b → w'.heap[b]? = w.heap[b]?) : w'.ownsRow B e size v n xs := by
  obtain ⟨a, b⟩ := h
  refine ⟨a, ?_⟩
  rcases b with b | ⟨g, cap, cur, e1, r, r2, r3⟩
  · exact .inl b
  · refine .inr ⟨g, cap, cur, e1, r, ?_, r3⟩
    rw [hk g (by rw [e1]; rfl)]
    exact r2
theorem own_type {w : World} {B : Nat} {e : TypeId} {size n : Nat} {v : Value} {xs : List Value} (h : w.ownsRow B e size v n xs) (b : Nat) (hb : v.ownBlock = some b) : ∃ cur, w.heap[b]? = some (.cells cur e (0, 0)) := by
  obtain ⟨_, h⟩ := h
  rcases h with ⟨rfl, _⟩ | ⟨g, cap, cur, rfl, _, r, _⟩
  · simp [Value.ownBlock] at hb
  · simp [Value.ownBlock] at hb
    subst hb
    exact ⟨cur, r⟩
/-- Rows of two kinds lie in two blocks. -/
theorem own_apart {w : World} {B B' : Nat} {e e' : TypeId} {size size' n n' : Nat} {v v' : Value} {xs xs' : List Value} (h : w.ownsRow B e size v n xs) (h' : w.ownsRow B' e' size' v' n' xs') (he : e ≠ e') (b : Nat) (hb : v.ownBlock = some b) : v'.ownBlock ≠ some b := by
  intro hb'
  obtain ⟨c, hc⟩ := own_type h b hb
  obtain ⟨c', hc'⟩ := own_type h' b hb'
  rw [hc] at hc'
  simp at hc'
  exact he hc'.2
theorem set_take (l : List Value) (n i : Nat) (u : Value) (h : n ≤ i) : (l.set i u).take n = l.take n := by
  apply List.ext_getElem?
  intro t
  by_cases ht : t < n
  · simp [ht, show ¬ i = t by omega]
  · rw [List.getElem?_eq_none (by simp; omega), List.getElem?_eq_none (by simp; omega)]
theorem heap_setCell_eq (w : World) (b i : Nat) (u : Value) (cur : Array Value) (e : TypeId) (h : w.heap[b]? = some (.cells cur e (0, 0))) : (w.setCell ⟨b, i, none⟩ u).heap[b]? = some (.cells (cur.setIfInBounds i u) e (0, 0)) := by
  simp [World.setCell, Array.getElem?_modify, h]
/-- A store behind a row's end leaves the row. -/
theorem own_high {w : World} {B : Nat} {e : TypeId} {n : Nat} {v : Value} {xs : List Value} (h : w.ownsRow B e 1 v n xs) (b i : Nat) (u : Value) (hi : v.ownBlock = some b → n ≤ i) : (w.setCell ⟨b, i, none⟩ u).ownsRow B e 1 v n xs := by
  by_cases hb : v.ownBlock = some b
  · obtain ⟨a, h⟩ := h
    refine ⟨a, ?_⟩
    rcases h with h | ⟨g, cap, cur, rfl, r, r2, r3, r4, r5, r6⟩
    · exact .inl h
    · simp [Value.ownBlock] at hb
      subst hb
      refine .inr ⟨g, cap, _, rfl, r, heap_setCell_eq w g i u cur e r2, r3, r4, by simpa using r5, ?_⟩
      rw [Array.toList_setIfInBounds, set_take _ _ _ _ (by have := hi rfl; omega)]
      exact r6
  · refine own_of_heap h (fun b' hb' => ?_)
    exact Below.heap_setCell w ⟨b, i, none⟩ u b' (fun e => hb (by rw [hb', e]))
/-- One cell more within the room. -/
theorem own_room {w : World} {B : Nat} {e : TypeId} {n cap b : Nat} {xs : List Value} (h : w.ownsRow B e 1 (.slice (some ⟨b, 0, none⟩) n cap) n xs) (hr : n + 1 ≤ cap) (u : Value) : (w.setCell ⟨b, n, none⟩ u).ownsRow B e 1 (.slice (some ⟨b, 0, none⟩) (n + 1) cap) (n + 1) (xs ++ [u]) := by
  obtain ⟨a, h⟩ := h
  refine ⟨by simp; omega, ?_⟩
  rcases h with ⟨h, _⟩ | ⟨g, cap', cur, hv, r, r2, r3, r4, r5, r6⟩
  · simp at h
  · simp at hv
    obtain ⟨rfl, rfl⟩ := hv
    refine .inr ⟨b, cap, _, rfl, r, heap_setCell_eq w b n u cur e r2, hr, r4, by simpa using r5, ?_⟩
    rw [Array.toList_setIfInBounds]
    have hl : cur.toList.length = cap := by simpa using r5
    rw [Nat.mul_one, List.take_succ_eq_append_getElem (by rw [List.length_set]; omega), set_take _ _ _ _ (Nat.le_refl _)]
    rw [Nat.mul_one] at r6
    rw [r6]
    simp
theorem intCells_len (l : List Nat) : (intCells l).length = l.length := by simp [intCells]
theorem intCells_set4 (l : List Nat) (i c : Nat) : (intCells l).set i (Value.int .i64 (c : Int)) = intCells (l.set i c) := by simp [intCells, List.map_set]
/-- Marked up to k. -/
def markV (c : Nat) (xs : List Value) (k : Nat) : List Value := intCells (List.replicate k c) ++ xs.drop k
theorem markV_zero (c : Nat) (xs : List Value) : markV c xs 0 = xs := by simp [markV, intCells]
theorem markV_end (c n : Nat) (xs : List Value) (h : xs.length = n) : markV c xs n = intCells (List.replicate n c) := by simp [markV, ← h]
theorem markV_len (c : Nat) (xs : List Value) (k : Nat) (h : k ≤ xs.length) : (markV c xs k).length = xs.length := by simp [markV, intCells]; omega
theorem markV_set (c : Nat) (xs : List Value) (k : Nat) (h : k < xs.length) : (markV c xs k).set k (.int .i64 (c : Int)) = markV c xs (k + 1) := by
  unfold markV
  rw [List.drop_eq_getElem_cons h, List.set_append_right _ _ (by simp [intCells]), intCells_len, List.length_replicate, Nat.sub_self, List.set_cons_zero, List.replicate_succ', intCells_append, List.append_assoc]
  rfl
/-- What stands while a row V of n numbers c is copied and grown by numbers d: V itself; the copy g, with m numbers more; all other blocks of W0. -/
structure Grow (B : Nat) (w W0 : World) (V : Value) (n c d : Nat) (wr : World) (g : Value) (m : Nat) : Prop where
  others : ∀ k, k < W0.heap.size → V.ownBlock ≠ some k → wr.heap[k]? = W0.heap[k]?
  row : wr.ownsRow B 3 1 V n (intCells (List.replicate n c))
  copy : wr.ownsRow B 3 1 g (n + m) (intCells (List.replicate n c ++ List.replicate m d))
  place : g.ownBlock = V.ownBlock ∨ ∃ b, g.ownBlock = some b ∧ W0.heap.size ≤ b
  size : W0.heap.size ≤ wr.heap.size
  below : Below B w wr
theorem rep_more (n c m d : Nat) : intCells (List.replicate n c ++ List.replicate m d) ++ [Value.int .i64 (d : Int)] = intCells (List.replicate n c ++ List.replicate (m + 1) d) := by
  rw [List.replicate_succ', ← List.append_assoc, intCells_append (List.replicate n c ++ List.replicate m d)]
  rfl
/-- The next number is laid into the room behind the copy. -/
theorem Grow.room {B : Nat} {w W0 wr : World} {V : Value} {n c d m b cap : Nat} (h : Grow B w W0 V n c d wr (.slice (some ⟨b, 0, none⟩) (n + m) cap) m) (hr : n + m + 1 ≤ cap) (o : Obj) (hB : B ≤ W0.heap.size) :
    Grow B w W0 V n c d ((wr.alloc o).setCell ⟨b, n + m, none⟩ (.int .i64 (d : Int))) (.slice (some ⟨b, 0, none⟩) (n + m + 1) cap) (m + 1) := by
  have hbB : B ≤ b := (h.copy.lt b rfl).1
  have hbl : b < wr.heap.size := (h.copy.lt b rfl).2
  refine ⟨?_, ?_, ?_, ?_, ?_, ?_⟩
  · intro k hk hne
    have hkb : k ≠ b := by
      intro e
      subst e
      rcases h.place with hp | ⟨b', hp, hb'⟩
      · exact hne (by rw [← hp]; rfl)
      · simp [Value.ownBlock] at hp
        omega
    rw [Below.heap_setCell _ _ _ _ hkb, Below.heap_alloc _ _ _ (by have := h.size; omega)]
    exact h.others k hk hne
  · exact own_high (h.row.alloc o) b (n + m) _ (fun _ => by omega)
  · have := own_room (h.copy.alloc o) hr (.int .i64 (d : Int))
    rw [rep_more] at this
    exact this
  · rcases h.place with hp | ⟨b', hp, hb'⟩
    · exact .inl (by rw [← hp]; rfl)
    · exact .inr ⟨b', hp, hb'⟩
  · have := h.size
    simp [World.setCell]
    omega
  · exact (h.below.alloc (Nat.le_trans hB h.size) o).setCell (p := ⟨b, n + m, none⟩) hbB _
/-- The next number goes into a new row, with all that the copy held. -/
theorem Grow.fresh {B : Nat} {w W0 wr w2 : World} {V g g' : Value} {n c d m : Nat} (h : Grow B w W0 V n c d wr g m) (o : Obj) (hB : B ≤ W0.heap.size) (hown : w2.ownsRow (wr.heap.size + 1) 3 1 g' (n + m + 1) (intCells (List.replicate n c ++ List.replicate m d) ++ [Value.int .i64 (d : Int)])) (hg : (wr.alloc o).grownBy w2 none) :
    Grow B w W0 V n c d w2 g' (m + 1) := by
  have hsz : (wr.alloc o).heap.size = wr.heap.size + 1 := by simp
  have hs := h.size
  have hkeep : ∀ k, k < wr.heap.size → w2.heap[k]? = wr.heap[k]? := fun k hk => by
    rw [hg.block k (by omega) (by simp), Below.heap_alloc _ _ _ hk]
  refine ⟨?_, ?_, ?_, ?_, ?_, ?_⟩
  · intro k hk hne
    rw [hkeep k (by omega)]
    exact h.others k hk hne
  · exact own_of_heap h.row (fun b hb => hkeep b (h.row.lt b hb).2)
  · rw [rep_more] at hown
    exact own_mono hown (by omega)
  · have hne : g'.ownBlock ≠ none := by
      obtain ⟨_, hh⟩ := hown
      rcases hh with ⟨_, h0⟩ | ⟨b, cap, cur, rfl, _⟩
      · omega
      · simp [Value.ownBlock]
    obtain ⟨b, hb⟩ := Option.ne_none_iff_exists'.1 hne
    exact .inr ⟨b, hb, by have := (hown.lt b hb).1; omega⟩
  · have := hg.size
    omega
  · exact (h.below.alloc (Nat.le_trans hB hs) o).grown hg (by omega) (by simp)

/-- A told list's value. -/
def vv (a : Nat → Option Addr) (n c : Nat → Nat) (j : Nat) : Value := .slice (a j) (n j) (c j)
/-- What stands when i lists have been copied and grown. -/
structure Grown2 (B G : Nat) (a : Nat → Option Addr) (n c : Nat → Nat) (w wr : World) (vgr : Value) (i : Nat) (Gv : Nat → Value) : Prop where
  list : wr.heap[G]? = some (.cells #[vv a n c 0, vv a n c 1] 23 (0, 0))
  rows : ∀ j, j < 2 → wr.ownsRow B 3 1 (vv a n c j) (n j) (intCells (List.replicate (n j) (1000 + j)))
  grown : wr.ownsRow w.heap.size 23 1 vgr i ((List.range i).map Gv)
  copies : ∀ j, j < i → wr.ownsRow B 3 1 (Gv j) (n j + 40) (intCells (List.replicate (n j) (1000 + j) ++ List.replicate 40 (2000 + j)))
  apart : ∀ j, j < i → ∀ j', j' < 2 → j' ≠ j → ∀ b, (Gv j).ownBlock = some b → (vv a n c j').ownBlock ≠ some b
  below : Below B w wr
theorem list_apart {w : World} {B G : Nat} {v : Value} {n : Nat} {xs : List Value} {cs : Array Value} (hG : w.heap[G]? = some (.cells cs 23 (0, 0))) (h : w.ownsRow B 3 1 v n xs) : v.ownBlock ≠ some G := by
  intro hb
  obtain ⟨cur, hc⟩ := own_type h G hb
  rw [hG] at hc
  simp at hc
theorem Grown2.mid {B G : Nat} {a : Nat → Option Addr} {n c : Nat → Nat} {w wr w2 : World} {vgr g : Value} {i m : Nat} {Gv : Nat → Value} (h : Grown2 B G a n c w wr vgr i Gv) (hi : i < 2) (hg : Grow B w wr (vv a n c i) (n i) (1000 + i) (2000 + i) w2 g m) :
    w2.ownsRow w.heap.size 23 1 vgr i ((List.range i).map Gv) :=
  own_of_heap h.grown (fun b hb => hg.others b (h.grown.lt b hb).2 (own_apart h.grown (h.rows i hi) (by decide) b hb))
theorem Grown2.midList {B G : Nat} {a : Nat → Option Addr} {n c : Nat → Nat} {w wr w2 : World} {vgr g : Value} {i m : Nat} {Gv : Nat → Value} (h : Grown2 B G a n c w wr vgr i Gv) (hi : i < 2) (hg : Grow B w wr (vv a n c i) (n i) (1000 + i) (2000 + i) w2 g m) :
    w2.heap[G]? = some (.cells #[vv a n c 0, vv a n c 1] 23 (0, 0)) := by
  rw [hg.others G (Array.getElem?_eq_some_iff.1 h.list).1 (list_apart h.list (h.rows i hi))]
  exact h.list
theorem Grown2.step {B G : Nat} {a : Nat → Option Addr} {n c : Nat → Nat} {w wr w2 w3 : World} {vgr v' g : Value} {i : Nat} {Gv : Nat → Value} {o : Obj} (h : Grown2 B G a n c w wr vgr i Gv) (hi : i < 2) (hd : ∀ j j', j < 2 → j' < 2 → j ≠ j' → ∀ b, (vv a n c j).ownBlock = some b → (vv a n c j').ownBlock ≠ some b)
    (hg : Grow B w wr (vv a n c i) (n i) (1000 + i) (2000 + i) w2 g 40) (hB : B ≤ w.heap.size) (hown : w3.ownsRow w.heap.size 23 1 v' (i + 1) ((List.range i).map Gv ++ [g])) (hgr : (w2.alloc o).grownBy w3 vgr.ownBlock) (hGw : G < w.heap.size) :
    Grown2 B G a n c w w3 v' (i + 1) (fun j => if j = i then g else Gv j) := by
  have hmid := h.mid hi hg
  have hsz : (w2.alloc o).heap.size = w2.heap.size + 1 := by simp
  have hs := hg.size
  -- a row of numbers stands behind the append to the list of lists
  have keep : ∀ {v : Value} {k : Nat} {xs : List Value}, w2.ownsRow B 3 1 v k xs → w3.ownsRow B 3 1 v k xs := by
    intro v k xs hv
    refine own_of_heap hv (fun b hb => ?_)
    have hbl := (hv.lt b hb).2
    rw [hgr.block b (by omega) (fun e => own_apart hv hmid (by decide) b hb e.symm), Below.heap_alloc _ _ _ hbl]
  have rows2 : ∀ j, j < 2 → w2.ownsRow B 3 1 (vv a n c j) (n j) (intCells (List.replicate (n j) (1000 + j))) := by
    intro j hj
    by_cases e : j = i
    · subst e; exact hg.row
    · exact own_of_heap (h.rows j hj) (fun b hb => hg.others b ((h.rows j hj).lt b hb).2 (hd j i hj hi e b hb))
  refine ⟨?_, fun j hj => keep (rows2 j hj), ?_, ?_, ?_, ?_⟩
  · have hl := h.midList hi hg
    have hlt := (Array.getElem?_eq_some_iff.1 hl).1
    rw [hgr.block G (by omega) (fun e => by have := (hmid.lt G e.symm).1; omega), Below.heap_alloc _ _ _ hlt]
    exact hl
  · have e : (List.range (i + 1)).map (fun j => if j = i then g else Gv j) = (List.range i).map Gv ++ [g] := by
      rw [List.range_succ, List.map_append]
      congr 1
      · apply List.map_congr_left
        intro j hj
        rw [List.mem_range] at hj
        rw [if_neg (by omega)]
      · simp
    rw [e]
    exact hown
  · intro j hj
    by_cases e : j = i
    · subst e
      simp only [if_true]
      exact keep hg.copy
    · simp only [if_neg e]
      have hc := h.copies j (by omega)
      exact keep (own_of_heap hc (fun b hb => hg.others b (hc.lt b hb).2 (h.apart j (by omega) i hi (fun x => e x.symm) b hb)))
  · intro j hj j' hj' hne b hb
    by_cases e : j = i
    · subst e
      simp only [if_true] at hb
      rcases hg.place with hp | ⟨b', hp, hb'⟩
      · rw [hp] at hb
        exact hd j j' (by omega) hj' (fun x => hne x.symm) b hb
      · rw [hp] at hb
        simp only [Option.some.injEq] at hb
        subst hb
        intro hx
        have := ((h.rows j' hj').lt b' hx).2
        omega
    · simp only [if_neg e] at hb
      exact h.apart j (by omega) j' hj' hne b hb
  · exact (hg.below.alloc (by have := hg.below.size; omega) o).grown hgr (by have := hg.below.size; omega) (fun k hk => by have := (hmid.lt k hk).1; omega)

end Go.Proofs.Ytafcejipoioigaa

namespace Go.Proofs.Ytafcejipoioigaa
open Go Go.RowKit Go.Lib
set_option linter.unusedVariables false

theorem Try.info_ints : (Try.prog.info? 23).map (fun i => (i.zero, i.size, i.bytes)) = some (some (.slice none 0 0), 1, 24) := by kernel_rfl
/-- What stands when the first i lists are marked. -/
structure Marked (B G : Nat) (a : Nat → Option Addr) (n c : Nat → Nat) (X : Nat → List Value) (w wr : World) (i : Nat) : Prop where
  list : wr.heap[G]? = some (.cells #[vv a n c 0, vv a n c 1] 23 (0, 0))
  rows : ∀ j, j < 2 → wr.ownsRow B 3 1 (vv a n c j) (n j) (if j < i then intCells (List.replicate (n j) (1000 + j)) else X j)
  below : Below B w wr
/-- What stands when k numbers of list i are marked. -/
structure Marking (B : Nat) (V : Value) (n i : Nat) (X : List Value) (w W0 wr : World) (k : Nat) : Prop where
  others : ∀ b, V.ownBlock ≠ some b → wr.heap[b]? = W0.heap[b]?
  row : wr.ownsRow B 3 1 V n (markV (1000 + i) X k)
  below : Below B w wr
theorem cell_list {w : World} {G : Nat} {a : Nat → Option Addr} {n c : Nat → Nat} (h : w.heap[G]? = some (.cells #[vv a n c 0, vv a n c 1] 23 (0, 0))) (i : Nat) (hi : i < 2) : w.cell? ⟨G, i, none⟩ = some (.slice (a i) (n i) (c i)) := by
  have : i = 0 ∨ i = 1 := by omega
  rcases this with rfl | rfl
  · simp [World.cell?, h, vv]
  · simp [World.cell?, h, vv]
theorem own_addr {w : World} {B : Nat} {a : Option Addr} {n c : Nat} {xs : List Value} (h : w.ownsRow B 3 1 (.slice a n c) n xs) (hn : 0 < n) : ∃ g, a = some ⟨g, 0, none⟩ := by
  obtain ⟨_, h⟩ := h
  rcases h with ⟨_, h0⟩ | ⟨g, cap, cur, hv, _⟩
  · omega
  · simp at hv
    exact ⟨g, hv.1⟩

theorem cells_one (w : World) (b i : Nat) (u : Value) : w.setCells b i [u] = w.setCell ⟨b, i, none⟩ u := by simp [World.setCells]
theorem addr_at (g j : Nat) : (⟨g, 0, none⟩ : Addr).add j = ⟨g, j, none⟩ := by
  cases j with
  | zero => simp [Addr.add]
  | succ j => simp [Addr.add]
theorem own_spare {w : World} {B b n cap : Nat} {e : TypeId} {xs : List Value} (h : w.ownsRow B e 1 (.slice (some ⟨b, 0, none⟩) n cap) n xs) (i : Nat) (hi : i < cap) : (w.cell? ⟨b, i, none⟩).isSome = true ∧ w.frozen? ⟨b, i, none⟩ = false := by
  obtain ⟨_, h⟩ := h
  rcases h with ⟨h, _⟩ | ⟨g, cap', cur, hv, _, r, _, _, r5, _⟩
  · simp at h
  · simp at hv
    obtain ⟨rfl, rfl⟩ := hv
    constructor
    · simp [World.cell?, r]
      omega
    · simp [World.frozen?, r]

set_option maxHeartbeats 4000000 in
set_option maxRecDepth 100000 in
theorem apart_any (B G : Nat) (a : Nat → Option Addr) (n c : Nat → Nat) (X : Nat → List Value) (w : World) (hG : w.heap[G]? = some (.cells #[vv a n c 0, vv a n c 1] 23 (0, 0)))
    (hrow : ∀ j, j < 2 → w.ownsRow B 3 1 (vv a n c j) (n j) (X j)) (hlen : ∀ j, j < 2 → n j ≤ 17592186044000) (hX : ∀ j, j < 2 → (X j).length = n j)
    (hd : ∀ j j', j < 2 → j' < 2 → j ≠ j' → ∀ b, (vv a n c j).ownBlock = some b → (vv a n c j').ownBlock ≠ some b) (hB : B ≤ w.heap.size) :
    Calls Try.prog 24 #[.slice (some ⟨G, 0, none⟩) 2 2] w fun e w' => e = .returned (.bool true) ∧ Below B w w' := by
  have HX : Hid _ := hX
  have HD : Hid _ := hd
  have HL : Hid (∀ j, j < 2 → n j ≤ 17592186044000) := hlen
  have hGw : G < w.heap.size := (Array.getElem?_eq_some_iff.1 hG).1
  have HM0 : Hid (Marked B G a n c X w w 0) := ⟨hG, fun j hj => by rw [if_neg (by omega)]; exact hrow j hj, Below.refl _ _⟩
  clear hX hd hlen hG hrow
  go_enter Try.func24, Try.ntmps24
  go_wp2_with fail
  go_loopw [4] (fun vi wr => ∃ i : Nat, vi = .int .i64 i ∧ i ≤ 2 ∧ Marked B G a n c X w wr i) (fun vi _ => 2 - (Go.RowKit.intOf vi).toNat)
  case atStart => exact ⟨0, rfl, by omega, HM0.out⟩
  case round =>
    obtain ⟨i, rfl, hi, hM⟩ := hrel
    obtain ⟨W0, hW0⟩ : ∃ W0, W0 = wr := ⟨_, rfl⟩
    subst hW0
    have HM : Hid (Marked B G a n c X w W0 i) := hM
    clear hM
    by_cases hi2 : i < 2
    · have hcG := cell_list HM.out.list i hi2
      have hiI : (i : Int) < 2 := by omega
      have hni := HL.out i hi2
      go_wp2_with fail
      go_loopw [5] (fun vk w2 => ∃ k : Nat, vk = .int .i64 k ∧ k ≤ n i ∧ Marking B (vv a n c i) (n i) i (X i) w W0 w2 k) (fun vk _ => n i - (Go.RowKit.intOf vk).toNat)
      case atStart => exact ⟨0, rfl, Nat.zero_le _, fun _ _ => rfl, by
        have := HM.out.rows i hi2
        rw [if_neg (by omega)] at this
        rw [markV_zero]
        exact this, HM.out.below⟩
      case round =>
        obtain ⟨k, rfl, hk, hMk⟩ := hrel
        have HMk : Hid (Marking B (vv a n c i) (n i) i (X i) w W0 wr k) := hMk
        clear hMk hcG
        have hcG := cell_list (by rw [HMk.out.others G (list_apart HM.out.list (HM.out.rows i hi2))]; exact HM.out.list) i hi2
        by_cases hlt : k < n i
        · obtain ⟨g, hg⟩ := own_addr (show wr.ownsRow B 3 1 (.slice (a i) (n i) (c i)) (n i) _ from HMk.out.row) (by omega)
          have hrow2 : wr.ownsRow B 3 1 (.slice (some ⟨g, 0, none⟩) (n i) (c i)) (n i) (markV (1000 + i) (X i) k) := by
            have := HMk.out.row
            unfold vv at this
            rw [hg] at this
            exact this
          have hck := hrow2.cellAt k (by omega)
          have hfk := hrow2.frozenAt k
          have hlm : (markV (1000 + i) (X i) k).length = n i := by
            have := HX.out i hi2
            rw [markV_len _ _ _ (by omega)]
            exact this
          have hsome : ∃ z : Value, (markV (1000 + i) (X i) k)[k]? = some z := ⟨(markV (1000 + i) (X i) k)[k]'(by omega), by simp [hlm, hlt]⟩
          obtain ⟨z, hz⟩ := hsome
          rw [hz] at hck
          have HR2 : Hid (Marking B (vv a n c i) (n i) i (X i) w W0 (wr.setCell ⟨g, k, none⟩ (.int .i64 (1000 + (i : Int)))) (k + 1)) := by
            refine ⟨?_, ?_, ?_⟩
            · intro b hb
              rw [Below.heap_setCell _ _ _ _ (fun e => hb (by unfold vv; rw [hg, e]; rfl))]
              exact HMk.out.others b hb
            · have r := (hrow2.stored k (.int .i64 ((1000 + i : Nat) : Int))).1
              rw [markV_set _ _ _ (by rw [HX.out i hi2]; exact hlt)] at r
              unfold vv
              rw [hg]
              have e : ((1000 + i : Nat) : Int) = 1000 + (i : Int) := by omega
              rw [e] at r
              exact r
            · exact HMk.out.below.setCell (p := ⟨g, k, none⟩) (hrow2.lt g rfl).1 _
          rw [hg] at hcG
          clear hrow2 hz hlm hg
          go_wp2_with fail
          go_roundw
          case rel => exact ⟨k + 1, by go_num, by omega, HR2.out⟩
          case measure => simp [Go.RowKit.intOf]; omega
        · have HE : Hid (k = n i) := by show k = n i; omega
          have HMn : Hid (Marked B G a n c X w wr (i + 1)) := by
            refine ⟨?_, ?_, HMk.out.below⟩
            · rw [HMk.out.others G (list_apart HM.out.list (HM.out.rows i hi2))]
              exact HM.out.list
            · intro j hj
              by_cases e : j = i
              · subst e
                rw [if_pos (by omega)]
                have := HMk.out.row
                rw [HE.out, markV_end _ _ _ (HX.out j hj)] at this
                exact this
              · have hr := HM.out.rows j hj
                have e2 : (j < i + 1) = (j < i) := by
                  apply propext
                  omega
                simp only [e2]
                exact own_of_heap hr (fun b hb => HMk.out.others b (HD.out j i hj hi2 e b hb))
          go_wp2_with fail
          go_roundw
          case rel => exact ⟨i + 1, by go_num, by omega, HMn.out⟩
          case measure => simp [Go.RowKit.intOf]; omega
    · have HI : Hid (i = 2) := by show i = 2; omega
      have HG0 : Hid (Grown2 B G a n c w W0 (.slice none 0 0) 0 (fun _ => .slice none 0 0)) := by
        refine ⟨HM.out.list, ?_, World.ownsRow_nil _ _ _ _, fun j hj => by omega, fun j hj => by omega, HM.out.below⟩
        intro j hj
        have := HM.out.rows j hj
        rw [if_pos (by have := HI.out; omega)] at this
        exact this
      have hdi : decide ((i : Int) < 2) = false := by rw [decide_eq_false_iff_not]; have := HI.out; omega
      clear HM
      obtain ⟨ti, hti, hz0, hz1, hz2⟩ := info_parts Try.info_int
      obtain ⟨tl, htl, hy0, hy1, hy2⟩ := info_parts Try.info_ints
      go_wp2_with fail
      clear hdi
      go_loopw [3, 6] (fun vgr vj wr => ∃ (j : Nat) (Gv : Nat → Value), vj = .int .i64 j ∧ j ≤ 2 ∧ Grown2 B G a n c w wr vgr j Gv) (fun _ vj _ => 2 - (Go.RowKit.intOf vj).toNat)
      case atStart => exact ⟨0, _, rfl, by omega, HG0.out⟩
      case round =>
        obtain ⟨j, Gv, rfl, hj, hGr⟩ := hrel
        obtain ⟨W1, hW1⟩ : ∃ W1, W1 = wr := ⟨_, rfl⟩
        subst hW1
        obtain ⟨va, vcap, rfl⟩ := own_shape hGr.grown
        have HGr : Hid (Grown2 B G a n c w W1 (.slice va j vcap) j Gv) := hGr
        clear hGr HG0
        by_cases hj2 : j < 2
        · have hcG := cell_list HGr.out.list j hj2
          have hjI : (j : Int) < 2 := by omega
          have hnj := HL.out j hj2
          go_wp2_with fail
          go_loopw [7, 8] (fun g vm w2 => ∃ m : Nat, vm = .int .i64 m ∧ m ≤ 40 ∧ Grow B w W1 (vv a n c j) (n j) (1000 + j) (2000 + j) w2 g m) (fun _ vm _ => 40 - (Go.RowKit.intOf vm).toNat)
          case atStart => exact ⟨0, rfl, by omega, fun _ _ _ => rfl, HGr.out.rows j hj2, by
            have := HGr.out.rows j hj2
            simpa [vv] using this, .inl rfl, Nat.le_refl _, HGr.out.below⟩
          case round =>
            obtain ⟨m, rfl, hm, hgrow⟩ := hrel
            obtain ⟨ga, gcap, rfl⟩ := own_shape hgrow.copy
            have HGm : Hid (Grow B w W1 (vv a n c j) (n j) (1000 + j) (2000 + j) wr (.slice ga (n j + m) gcap) m) := hgrow
            clear hgrow
            have hBW : B ≤ W1.heap.size := Nat.le_trans hB HGr.out.below.size
            have ed : ((2000 + j : Nat) : Int) = 2000 + (j : Int) := by omega
            by_cases hm40 : m < 40
            · have hcells : ∀ ad : Addr, ga = some ad → ∀ t u, (intCells (List.replicate (n j) (1000 + j) ++ List.replicate m (2000 + j)))[t]? = some u → (wr.alloc (.cells #[.int .i64 (2000 + (j : Int))] 3)).cell? (ad.add t) = some u := by
                intro ad had t u hu
                subst had
                have ho := HGm.out.copy.alloc (.cells #[.int .i64 (2000 + (j : Int))] 3)
                obtain ⟨_, hh⟩ := ho
                rcases hh with ⟨hv, _⟩ | ⟨g', cap', cur, hv, _⟩
                · simp at hv
                · simp at hv
                  obtain ⟨rfl, rfl⟩ := hv
                  exact (HGm.out.copy.alloc (.cells #[.int .i64 (2000 + (j : Int))] 3)).cells (g := g') rfl t u hu
              have HCe : Hid _ := hcells
              clear hcells
              have hlenc : (intCells (List.replicate (n j) (1000 + j) ++ List.replicate m (2000 + j))).length = (n j + m) * 1 := by simp [intCells]
              have HLc : Hid _ := hlenc
              clear hlenc
              by_cases hroom : n j + m + 1 ≤ gcap
              · obtain ⟨b, hb⟩ : ∃ b, ga = some ⟨b, 0, none⟩ := by
                  obtain ⟨_, hh⟩ := HGm.out.copy
                  rcases hh with ⟨hv, _⟩ | ⟨g', cap', cur, hv, _⟩
                  · simp at hv; omega
                  · simp at hv
                    exact ⟨g', hv.1⟩
                subst hb
                have HN : Hid _ := HGm.out.room hroom (.cells #[.int .i64 (2000 + (j : Int))] 3) hBW
                have hcopy := HGm.out.copy.alloc (.cells #[.int .i64 (2000 + (j : Int))] 3)
                have HCp : Hid _ := hcopy
                clear hcopy
                go_wp2_with (at_builtin; refine wpList_append_arg _ rfl _ _ 23 rfl 3 ti (.int .i64 0) 1 8 Try.underlying23 hti hz0 hz1 hz2 rfl (by decide) b 0 (n j + m) gcap (intCells (List.replicate (n j) (1000 + j) ++ List.replicate m (2000 + j))) rfl ?c0 ?c1 ⟨wr.heap.size, 0, none⟩ 1 1 [.int .i64 (2000 + (j : Int))] rfl rfl ?c2 ?c3 ?c4 ?c5 ?c6 ?c7 ?c8)
                case c0 => exact HLc.out
                case c1 =>
                  intro t u hu
                  have := HCe.out ⟨b, 0, none⟩ rfl t u hu
                  rw [addr_at] at this
                  rw [Nat.zero_add]
                  exact this
                case c2 => exact cell_one_new _ _ _
                case c3 => intro u hu; simp at hu; subst hu; rfl
                case c4 =>
                  intro _ t ht
                  simp at ht
                  subst ht
                  have e : 0 + (n j + m) * 1 + 0 = n j + m := by omega
                  rw [e]
                  exact own_spare HCp.out (n j + m) (by omega)
                case c5 => unfold maxLen; omega
                case c6 => omega
                case roundEnd =>
                  have HN2 : Hid (Grow B w W1 (vv a n c j) (n j) (1000 + j) (2000 + j) ((wr.alloc (.cells #[.int .i64 (2000 + (j : Int))] 3)).setCells b (n j + m) [.int .i64 (2000 + (j : Int))]) (.slice (some ⟨b, 0, none⟩) (n j + m + 1) gcap) (m + 1)) := by
                    have h := HN.out
                    rw [ed] at h
                    rw [cells_one]
                    exact h
                  clear HN HCp HCe HLc hcG
                  go_roundw
                  case rel => exact ⟨m + 1, by go_num, by omega, HN2.out⟩
                  case measure => simp [Go.RowKit.intOf]; omega
                case c8 => intro h; omega
              · go_wp2_with (at_builtin; refine wpList_append_grows _ rfl _ _ 23 rfl 3 ti (.int .i64 0) 1 8 Try.underlying23 hti hz0 hz1 hz2 rfl (by decide) ga (n j + m) gcap (intCells (List.replicate (n j) (1000 + j) ++ List.replicate m (2000 + j))) rfl ?e0 ?e1 ?e2 ⟨wr.heap.size, 0, none⟩ 1 1 [.int .i64 (2000 + (j : Int))] rfl rfl ?e3 ?e4 ?e5 ?e6 ?e7 ?e8)
                case e0 =>
                  intro hna
                  obtain ⟨_, hh⟩ := HGm.out.copy
                  rcases hh with ⟨hv, h0⟩ | ⟨g', cap', cur, hv, _⟩
                  · simp at hv
                    exact ⟨h0, hv.2.2⟩
                  · simp [hna] at hv
                case e1 => exact HLc.out
                case e2 => exact HCe.out
                case e3 => exact cell_one_new _ _ _
                case e4 => intro u hu; simp at hu; subst hu; rfl
                case e5 => omega
                case e6 => unfold maxLen; omega
                case e7 => omega
                case e8 =>
                  intro v' w2 hown hgr
                  have HN2 : Hid (Grow B w W1 (vv a n c j) (n j) (1000 + j) (2000 + j) w2 v' (m + 1)) := by
                    refine HGm.out.fresh (.cells #[.int .i64 (2000 + (j : Int))] 3) hBW ?_ hgr
                    rw [ed]
                    simpa using hown
                  clear hown hgr HCe HLc hcG
                  go_wp2_with fail
                  go_roundw
                  case rel => exact ⟨m + 1, by go_num, by omega, HN2.out⟩
                  case measure => simp [Go.RowKit.intOf]; omega
            · have hm4 : m = 40 := by omega
              subst hm4
              have HMid : Hid (wr.ownsRow w.heap.size 23 1 (.slice va j vcap) j ((List.range j).map Gv)) := HGr.out.mid hj2 HGm.out
              have hsz1 := HGm.out.below.size
              go_wp2_with (at_builtin; refine wpList_append_own _ rfl _ _ 94 rfl w.heap.size 23 tl (.slice none 0 0) 1 24 Try.underlying94 htl hy0 hy1 hy2 rfl (by decide) _ _ _ rfl (HMid.out.alloc _) ⟨wr.heap.size, 0, none⟩ 1 1 [.slice ga (n j + 40) gcap] rfl rfl ?f1 ?f2 ?f3 ?f4 ?f5 ?_)
              case f1 => exact cell_one_new _ _ _
              case f2 => intro u hu; simp at hu; subst hu; rfl
              case f3 => unfold maxLen; omega
              case f4 => omega
              case f5 => simp; omega
              intro v' w3 hown hgr _
              have HN3 : Hid (Grown2 B G a n c w w3 v' (j + 1) (fun t => if t = j then .slice ga (n j + 40) gcap else Gv t)) := HGr.out.step hj2 HD.out HGm.out hB hown hgr hGw
              clear hown hgr hcG
              go_wp2_with fail
              go_roundw
              case rel => exact ⟨j + 1, _, by go_num, by omega, HN3.out⟩
              case measure => simp [Go.RowKit.intOf]; omega
        · have HJ : Hid (j = 2) := by show j = 2; omega
          obtain ⟨vb, hvb⟩ : ∃ vb, va = some ⟨vb, 0, none⟩ := by
            obtain ⟨_, hh⟩ := HGr.out.grown
            rcases hh with ⟨_, h0⟩ | ⟨g', cap', cur, hv, _⟩
            · have := HJ.out; omega
            · simp at hv
              exact ⟨g', hv.1⟩
          subst hvb
          have hdj : decide ((j : Int) < 2) = false := by rw [decide_eq_false_iff_not]; have := HJ.out; omega
          have HCells : Hid (∀ t, t < 2 → W1.cell? ⟨vb, t, none⟩ = some (Gv t)) := by
            intro t ht
            rw [HGr.out.grown.cellAt t (by have := HJ.out; omega)]
            simp [show t < j by have := HJ.out; omega]
          have HCop : Hid (∀ t, t < 2 → ∃ gb gc, Gv t = .slice (some ⟨gb, 0, none⟩) (n t + 40) gc ∧ (∀ k, k < n t → W1.cell? ⟨gb, k, none⟩ = some (.int .i64 ((1000 + t : Nat) : Int))) ∧ (∀ k, n t ≤ k → k < n t + 40 → W1.cell? ⟨gb, k, none⟩ = some (.int .i64 ((2000 + t : Nat) : Int)))) := by
            intro t ht
            have hc := HGr.out.copies t (by have := HJ.out; omega)
            obtain ⟨_, hh⟩ := id hc
            rcases hh with ⟨_, h0⟩ | ⟨gb, gc, cur, hv, _⟩
            · omega
            · rw [hv] at hc
              refine ⟨gb, gc, hv, fun k hk => ?_, fun k hk1 hk2 => ?_⟩
              · rw [hc.cellAt k (by omega)]
                simp [intCells, List.getElem?_append_left, hk]
              · rw [hc.cellAt k (by omega)]
                have e : (intCells (List.replicate (n t) (1000 + t) ++ List.replicate 40 (2000 + t)))[k]? = some (Value.int .i64 ((2000 + t : Nat) : Int)) := by
                  unfold intCells
                  rw [List.getElem?_map, List.getElem?_append_right (by rw [List.length_replicate]; exact hk1), List.length_replicate, List.getElem?_replicate, if_pos (by omega)]
                  rfl
                exact e
          have HRow : Hid (∀ t, t < 2 → 0 < n t → ∃ rb, a t = some ⟨rb, 0, none⟩ ∧ ∀ k, k < n t → W1.cell? ⟨rb, k, none⟩ = some (.int .i64 ((1000 + t : Nat) : Int))) := by
            intro t ht hn0
            have hr : W1.ownsRow B 3 1 (.slice (a t) (n t) (c t)) (n t) _ := HGr.out.rows t ht
            obtain ⟨rb, hrb⟩ := own_addr hr hn0
            rw [hrb] at hr
            refine ⟨rb, hrb, fun k hk => ?_⟩
            rw [hr.cellAt k (by omega)]
            simp [intCells, hk]
          have HLst : Hid (∀ t, t < 2 → W1.cell? ⟨G, t, none⟩ = some (.slice (a t) (n t) (c t))) := fun t ht => cell_list HGr.out.list t ht
          have HBe : Hid (Below B w W1) := HGr.out.below
          clear HGr
          have hjge : 2 ≤ j := by have := HJ.out; omega
          go_wp2_with fail
          clear hdj
          go_loop [9] (fun vt => ∃ t : Nat, vt = .int .i64 t ∧ t ≤ 2) (fun vt => 2 - (Go.RowKit.intOf vt).toNat)
          case atStart => exact ⟨0, rfl, by omega⟩
          case round =>
            obtain ⟨t, rfl, ht⟩ := hrel
            by_cases ht2 : t < 2
            · have hcl := HLst.out t ht2
              have hcg := HCells.out t ht2
              obtain ⟨gb, gc, hgv, hlow, hhigh⟩ := HCop.out t ht2
              rw [hgv] at hcg
              have HLow : Hid _ := hlow
              have HHigh : Hid _ := hhigh
              have htI : (t : Int) < 2 := by omega
              have htj : (t : Int) < j := by omega
              have hnt := HL.out t ht2
              clear hgv hlow hhigh
              go_wp2_with fail
              go_loop [10] (fun vk => ∃ k : Nat, vk = .int .i64 k ∧ k ≤ n t + 40) (fun vk => n t + 40 - (Go.RowKit.intOf vk).toNat)
              case atStart => exact ⟨0, rfl, by omega⟩
              case round =>
                obtain ⟨k, rfl, hk⟩ := hrel
                by_cases hk40 : k < n t + 40
                · by_cases hkn : k < n t
                  · obtain ⟨rb, hrb, hrc⟩ := HRow.out t ht2 (by omega)
                    have hc1 := hrc k hkn
                    have hc2 := HLow.out k hkn
                    rw [hrb] at hcl
                    have e1 : ((1000 + t : Nat) : Int) = 1000 + (t : Int) := by omega
                    rw [e1] at hc1 hc2
                    have hkI : (k : Int) < (n t : Int) := by omega
                    clear hrc hrb e1
                    go_wp2_with fail
                    go_round
                    case rel => exact ⟨k + 1, by go_num, by omega⟩
                    case measure => simp [Go.RowKit.intOf]; omega
                  · have hc2 := HHigh.out k (by omega) hk40
                    have e1 : ((2000 + t : Nat) : Int) = 2000 + (t : Int) := by omega
                    rw [e1] at hc2
                    have hkI : decide ((k : Int) < (n t : Int)) = false := by rw [decide_eq_false_iff_not]; omega
                    have hkI2 : (n t : Int) ≤ (k : Int) := by omega
                    clear e1
                    go_wp2_with fail
                    go_round
                    case rel => exact ⟨k + 1, by go_num, by omega⟩
                    case measure => simp [Go.RowKit.intOf]; omega
                · go_wp2_with fail
                  go_round
                  case rel => exact ⟨t + 1, by go_num, by omega⟩
                  case measure => simp [Go.RowKit.intOf]; omega
            · go_wp2_with fail
              go_ret
              exact ⟨rfl, HBe.out⟩

end Go.Proofs.Ytafcejipoioigaa

namespace Go.Proofs.Ytafcejipoioigaa
open Go Go.RowKit Go.Lib Go.Maps
set_option linter.unusedVariables false
attribute [-instance] List.instBEq instBEqProd

/-- What Omega answers. -/
def OmU (K n : Nat) (N : List Nat) (i x e : Int) : Prop := (∃ k y : Nat, i = k ∧ k < n ∧ x = y ∧ e = 0 ∧ OmQ K N k y) ∨ (¬ hasE n i = true ∧ x = 0 ∧ e = 11)

theorem OmU.uniq {A : Aut} {M : List (List Nat)} {N : List Nat} (hm : Mon A M N) {i x e x' e' : Int} (h : OmU A.k.toNat M.length N i x e) (g : OmU A.k.toNat M.length N i x' e') : x = x' ∧ e = e' := by
  rcases h with ⟨k, y, rfl, hk, rfl, rfl, h⟩ | ⟨h1, rfl, rfl⟩
  · rcases g with ⟨k', y', e, hk', rfl, rfl, g⟩ | ⟨g1, _, _⟩
    · obtain rfl : k = k' := by omega
      rw [hm.om_uniq hk h g]
      exact ⟨rfl, rfl⟩
    · exact absurd (hasE_yes hk) g1
  · rcases g with ⟨k', y', rfl, hk', rfl, rfl, g⟩ | ⟨g1, rfl, rfl⟩
    · exact absurd (hasE_yes hk') h1
    · exact ⟨rfl, rfl⟩

theorem omega_all {w : World} {ob : Nat} {A : Aut} {M : List (List Nat)} {N : List Nat} (h : MO w ob A M N) (i : Int) :
    Calls Try.prog 15 #[.pointer (some ⟨ob, 0, none⟩), .int .i64 i] w fun e w' => (∃ x z, e = .returned (.tuple #[.int .i64 x, .int .i64 z]) ∧ OmU A.k.toNat M.length N i x z) ∧ Below w.heap.size w w' := by
  by_cases hi : hasE M.length i = true
  · obtain ⟨k, rfl, hk⟩ := hasE_of hi
    refine (omega_any h k hk).mono ?_
    rintro e w' ⟨⟨x, rfl, hx⟩, hb⟩
    exact ⟨⟨_, _, rfl, .inl ⟨k, x, rfl, hk, rfl, rfl, hx⟩⟩, hb⟩
  · refine (omega_not h i hi).mono ?_
    rintro e w' ⟨rfl, hb⟩
    exact ⟨⟨_, _, rfl, .inr ⟨hi, rfl, rfl⟩⟩, hb⟩

theorem romega_all {w : World} {rb : Nat} {A : Aut} {M : List (List Nat)} {N : List Nat} (h : RF w rb A M N) (i : Int) :
    Calls Try.prog 16 #[.pointer (some ⟨rb, 0, none⟩), .int .i64 i] w fun e w' => (∃ x z, e = .returned (.tuple #[.int .i64 x, .int .i64 z]) ∧ OmU A.k.toNat M.length N i x z) ∧ Below w.heap.size w w' := by
  by_cases hi : hasE M.length i = true
  · obtain ⟨k, rfl, hk⟩ := hasE_of hi
    refine (romega_any h k hk).mono ?_
    rintro e w' ⟨⟨x, rfl, hx⟩, hb⟩
    exact ⟨⟨_, _, rfl, .inl ⟨k, x, rfl, hk, rfl, rfl, hx⟩⟩, hb⟩
  · refine (romega_not h i hi).mono ?_
    rintro e w' ⟨rfl, hb⟩
    exact ⟨⟨_, _, rfl, .inr ⟨hi, rfl, rfl⟩⟩, hb⟩

/-- What Cycle answers. -/
def CyU (K n : Nat) (N : List Nat) (i x y e : Int) : Prop := (∃ k t r : Nat, i = k ∧ k < n ∧ x = t ∧ y = r ∧ e = 0 ∧ TR (rm K N k) 0 t r) ∨ (¬ hasE n i = true ∧ x = 0 ∧ y = 0 ∧ e = 11)

theorem CyU.uniq {K n : Nat} {N : List Nat} {i x y e x' y' e' : Int} (h : CyU K n N i x y e) (g : CyU K n N i x' y' e') : x = x' ∧ y = y' ∧ e = e' := by
  rcases h with ⟨k, t, r, rfl, hk, rfl, rfl, rfl, h⟩ | ⟨h1, rfl, rfl, rfl⟩
  · rcases g with ⟨k', t', r', e, hk', rfl, rfl, rfl, g⟩ | ⟨g1, _, _, _⟩
    · obtain rfl : k = k' := by omega
      obtain ⟨rfl, rfl⟩ := h.uniq g
      exact ⟨rfl, rfl, rfl⟩
    · exact absurd (hasE_yes hk) g1
  · rcases g with ⟨k', t', r', rfl, hk', rfl, rfl, rfl, g⟩ | ⟨g1, rfl, rfl, rfl⟩
    · exact absurd (hasE_yes hk') h1
    · exact ⟨rfl, rfl, rfl⟩

theorem cycle_all {w : World} {ob : Nat} {A : Aut} {M : List (List Nat)} {N : List Nat} (h : MO w ob A M N) (i : Int) :
    Calls Try.prog 17 #[.pointer (some ⟨ob, 0, none⟩), .int .i64 i] w fun e w' => (∃ x y z, e = .returned (.tuple #[.int .i64 x, .int .i64 y, .int .i64 z]) ∧ CyU A.k.toNat M.length N i x y z) ∧ Below w.heap.size w w' := by
  by_cases hi : hasE M.length i = true
  · obtain ⟨k, rfl, hk⟩ := hasE_of hi
    refine (iCycle_any h k hk).mono ?_
    rintro e w' ⟨⟨t, r, rfl, hx⟩, hb⟩
    exact ⟨⟨_, _, _, rfl, .inl ⟨k, t, r, rfl, hk, rfl, rfl, rfl, hx⟩⟩, hb⟩
  · refine (iCycle_not h i hi).mono ?_
    rintro e w' ⟨rfl, hb⟩
    exact ⟨⟨_, _, _, rfl, .inr ⟨hi, rfl, rfl, rfl⟩⟩, hb⟩

theorem rcycle_all {w : World} {rb : Nat} {A : Aut} {M : List (List Nat)} {N : List Nat} (h : RF w rb A M N) (i : Int) :
    Calls Try.prog 18 #[.pointer (some ⟨rb, 0, none⟩), .int .i64 i] w fun e w' => (∃ x y z, e = .returned (.tuple #[.int .i64 x, .int .i64 y, .int .i64 z]) ∧ CyU A.k.toNat M.length N i x y z) ∧ Below w.heap.size w w' := by
  by_cases hi : hasE M.length i = true
  · obtain ⟨k, rfl, hk⟩ := hasE_of hi
    refine (rcycle_any h k hk).mono ?_
    rintro e w' ⟨⟨t, r, rfl, hx⟩, hb⟩
    exact ⟨⟨_, _, _, rfl, .inl ⟨k, t, r, rfl, hk, rfl, rfl, rfl, hx⟩⟩, hb⟩
  · refine (rcycle_not h i hi).mono ?_
    rintro e w' ⟨rfl, hb⟩
    exact ⟨⟨_, _, _, rfl, .inr ⟨hi, rfl, rfl, rfl⟩⟩, hb⟩

/-- Two lists of the same elements are the same. -/
theorem isameN {w : World} {b1 b2 : Nat} {L : List Nat} {a1 a2 : Option Addr} {c1 c2 : Nat} (h1 : OwnN w b1 (.slice a1 L.length c1) L) (h2 : OwnN w b2 (.slice a2 L.length c2) L) (hm : L.length ≤ 512) :
    Calls Try.prog 23 #[.slice a1 L.length c1, .slice a2 L.length c2] w fun e w' => e = .returned (.bool true) ∧ Below w.heap.size w w' := by
  have g1 := own_sr h1
  have g2 := own_sr h2
  rw [nC_zC] at g1 g2
  have := isame_any a1 a2 c1 c2 (L.map fun (n : Nat) => (n : Int)) w g1 g2 (by rw [List.length_map]; omega)
  rw [List.length_map] at this
  exact this

def pk2 {α : Type} (x y : α) : Nat → α := fun j => if j = 0 then x else y

theorem two' {P : Nat → Prop} (h0 : P 0) (h1 : P 1) : ∀ j, j < 2 → P j := fun j hj => by
  have : j = 0 ∨ j = 1 := by omega
  rcases this with rfl | rfl
  · exact h0
  · exact h1

/-- Two lists that lie apart stay apart. -/
theorem apartN {y : World} {B b1 b2 : Nat} {L1 L2 : List Nat} {a1 a2 : Option Addr} {c1 c2 : Nat} (h1 : OwnN y b1 (.slice a1 L1.length c1) L1) (h2 : OwnN y b2 (.slice a2 L2.length c2) L2) (hd : ∀ b, (Value.slice a1 L1.length c1).ownBlock = some b → (Value.slice a2 L2.length c2).ownBlock ≠ some b) (k1 : B ≤ b1) (k2 : B ≤ b2) (kB : B ≤ y.heap.size) (m1 : L1.length ≤ 512) (m2 : L2.length ≤ 512) :
    Calls Try.prog 24 #[.slice (some ⟨y.heap.size, 0, none⟩) 2 2] (y.alloc (.cells #[.slice a1 L1.length c1, .slice a2 L2.length c2] 23)) fun e w' => e = .returned (.bool true) ∧ Below B (y.alloc (.cells #[.slice a1 L1.length c1, .slice a2 L2.length c2] 23)) w' := by
  refine apart_any B y.heap.size (pk2 a1 a2) (pk2 L1.length L2.length) (pk2 c1 c2) (pk2 (nC L1) (nC L2)) _ (heap_last y _) (two' ?_ ?_) (two' ?_ ?_) (two' ?_ ?_) ?_ (by simp; omega)
  · exact own_mono (h1.alloc _) k1
  · exact own_mono (h2.alloc _) k2
  · show L1.length ≤ _; omega
  · show L2.length ≤ _; omega
  · show (nC L1).length = L1.length; unfold nC; rw [List.length_map]
  · show (nC L2).length = L2.length; unfold nC; rw [List.length_map]
  · intro j j' hj hj' hne b hb
    have e1 : j = 0 ∨ j = 1 := by omega
    have e2 : j' = 0 ∨ j' = 1 := by omega
    rcases e1 with rfl | rfl <;> rcases e2 with rfl | rfl
    · omega
    · exact hd b hb
    · exact fun q => hd b q hb
    · omega

end Go.Proofs.Ytafcejipoioigaa

namespace Go.Proofs.Ytafcejipoioigaa
open Go Go.RowKit Go.Lib Go.Maps
set_option linter.unusedVariables false
attribute [-instance] List.instBEq instBEqProd

set_option maxHeartbeats 1000000 in
set_option maxRecDepth 100000 in
theorem icheckI_ok {w : World} {ob : Nat} {A : Aut} {M : List (List Nat)} {N : List Nat} (h : MO w ob A M N) (a : Option Addr) (cap : Nat) (L : List Nat) (hL : ∀ x ∈ L, x < M.length ∧ pr A.k.toNat N x x = x) (hS : SR w a (nC L)) (hm : L.length ≤ 9223372036854775806) :
    Calls Try.prog 57 #[.pointer (some ⟨ob, 0, none⟩), .slice a L.length cap] w fun e w' => e = .returned (.int .i64 0) ∧ Below w.heap.size w w' := by
  have HM : Hid (MO w ob A M N) := h
  have HL : Hid (∀ x ∈ L, x < M.length ∧ pr A.k.toNat N x x = x) := hL
  have HS : Hid (SR w a (nC L)) := hS
  have HC : Hid (Calls Try.prog 43 #[.pointer (some ⟨ob, 0, none⟩), .slice a L.length cap] w fun e w' => e = .returned (.int .i64 0) ∧ w = w') := by
    have q := icheck_any h a cap (L.map fun (n : Nat) => (n : Int)) (by rw [← nC_zC]; exact hS) (by simpa using hm)
    have e : ick M.length (L.map fun (n : Nat) => (n : Int)) = 0 := by
      unfold ick
      rw [if_pos]
      rw [List.all_eq_true]
      intro x hx
      obtain ⟨y, hy, rfl⟩ := List.mem_map.1 hx
      have := (hL y hy).1
      exact decide_eq_true ⟨by omega, by omega⟩
    rw [e, List.length_map] at q
    exact q
  clear h hL hS
  go_enter Try.func57, Try.ntmps57
  go_wp2_with fail
  refine HC.out.mono ?_
  rintro e w1 ⟨rfl, rfl⟩
  go_wp2_with fail
  go_loopw [16] (fun vi wr => ∃ i : Nat, i ≤ L.length ∧ vi = .int .i64 (i : Nat) ∧ Below w.heap.size w wr) (fun vi _ => L.length - (Go.Lib.intOf vi).toNat)
  case atStart => exact ⟨0, Nat.zero_le _, rfl, Below.refl _ _⟩
  case round =>
    obtain ⟨i, hi, rfl, hb⟩ := hrel
    have HB : Hid (Below w.heap.size w wr) := hb
    by_cases hlt : i < L.length
    · have hiI : (i : Int) < L.length := by omega
      obtain ⟨g, o, rfl, _, hc⟩ := (HS.out.stay hb).nat hlt
      obtain ⟨x, hx⟩ : ∃ x, L.getD i 0 = x := ⟨_, rfl⟩
      rw [hx] at hc
      have hxL : L[i]? = some x := by rw [List.getElem?_eq_getElem hlt, ← hx]; simp [hlt]
      have hxl := HL.out x (List.mem_of_getElem? hxL)
      have HI : Hid (Calls Try.prog 44 #[.pointer (some ⟨ob, 0, none⟩), .int .i64 (x : Nat)] wr fun e w' => e = .returned (.bool true) ∧ Below wr.heap.size wr w') := by
        have q := isIdem_any (HM.out.below HB.out) x hxl.1
        have e : idE A.k.toNat N x = true := decide_eq_true hxl.2
        rw [e] at q
        exact q
      have HLT : Hid (i < L.length) := hlt
      clear hb hx hxL hlt hxl
      go_wp2_with fail
      refine HI.out.mono ?_
      rintro e w1 ⟨rfl, hb1⟩
      have HB1 : Hid (Below w.heap.size w w1) := go_on HB.out hb1
      clear hb1 hc
      go_wp2_with fail
      go_roundw
      case rel => exact ⟨i + 1, HLT.out, by go_num, HB1.out⟩
      case measure => have := HLT.out; simp [Go.Lib.intOf]; omega
    · have hiI : ¬ (i : Int) < L.length := by omega
      clear hb
      go_wp2_with fail
      go_ret
      exact ⟨rfl, HB.out⟩

/-- Does one idempotent stand at or below another one? -/
def leE (K : Nat) (N : List Nat) (e f : Nat) : Bool := decide (pr K N e f = e ∧ pr K N f e = e)

set_option maxHeartbeats 2000000 in
set_option maxRecDepth 100000 in
theorem iBelow_ok {w : World} {ob : Nat} {A : Aut} {M : List (List Nat)} {N : List Nat} (h : MO w ob A M N) (x y : Nat) (hx : x < M.length) (hy : y < M.length) (hxx : pr A.k.toNat N x x = x) (hyy : pr A.k.toNat N y y = y) :
    Calls Try.prog 29 #[.pointer (some ⟨ob, 0, none⟩), .int .i64 (x : Nat), .int .i64 (y : Nat)] w fun e w' => e = .returned (.tuple #[.bool (leE A.k.toNat N x y), .int .i64 0]) ∧ Below w.heap.size w w' := by
  obtain ⟨w1, hw1⟩ : ∃ w1, w1 = w.alloc (.cells #[.int .i64 (x : Nat), .int .i64 (y : Nat)] 3) := ⟨_, rfl⟩
  have HB1 : Hid (Below w.heap.size w w1) := by show Below _ _ _; rw [hw1]; exact below_new _ _
  have HW1 : Hid (w1 = w.alloc (.cells #[.int .i64 (x : Nat), .int .i64 (y : Nat)] 3)) := hw1
  have HM : Hid (MO w ob A M N) := h
  have HC : Hid (Calls Try.prog 57 #[.pointer (some ⟨ob, 0, none⟩), .slice (some ⟨w.heap.size, 0, none⟩) 2 2] w1 fun e w' => e = .returned (.int .i64 0) ∧ Below w1.heap.size w1 w') := by
    show Calls _ _ _ _ _
    have q := icheckI_ok (h.below HB1.out) (some ⟨w.heap.size, 0, none⟩) 2 [x, y] (by simp; exact ⟨⟨hx, hxx⟩, hy, hyy⟩) (by rw [hw1]; exact sr_new w [x, y] 3) (by simp)
    exact q
  have HP1 : Hid (∀ u, MO u ob A M N → Calls Try.prog 55 #[.pointer (some ⟨ob, 0, none⟩), .slice (some ⟨u.heap.size, 0, none⟩) 2 2] (u.alloc (.cells #[.int .i64 (x : Nat), .int .i64 (y : Nat)] 3)) fun e w' => e = .returned (.int .i64 (pr A.k.toNat N x y : Nat)) ∧ Below u.heap.size u w') := fun u hu => iprod_two hu x y hx hy
  have HP2 : Hid (∀ u, MO u ob A M N → Calls Try.prog 55 #[.pointer (some ⟨ob, 0, none⟩), .slice (some ⟨u.heap.size, 0, none⟩) 2 2] (u.alloc (.cells #[.int .i64 (y : Nat), .int .i64 (x : Nat)] 3)) fun e w' => e = .returned (.int .i64 (pr A.k.toNat N y x : Nat)) ∧ Below u.heap.size u w') := fun u hu => iprod_two hu y x hy hx
  obtain ⟨p, hp⟩ : ∃ p, pr A.k.toNat N x y = p := ⟨_, rfl⟩
  obtain ⟨q, hq⟩ : ∃ q, pr A.k.toNat N y x = q := ⟨_, rfl⟩
  have HE : Hid (leE A.k.toNat N x y = decide (p = x ∧ q = x)) := by show _ = _; unfold leE; rw [hp, hq]
  rw [hp] at HP1
  rw [hq] at HP2
  clear h hw1 hp hq
  go_enter Try.func29, Try.ntmps29
  go_wp2_with fail
  rw [← HW1.out]
  refine HC.out.mono ?_
  rintro e w2 ⟨rfl, hb⟩
  have HB2 : Hid (Below w.heap.size w w2) := go_on HB1.out hb
  have HM2 : Hid (MO w2 ob A M N) := HM.out.below HB2.out
  clear hb
  go_wp2_with fail
  refine (HP1.out _ HM2.out).mono ?_
  rintro e w3 ⟨rfl, hb⟩
  have HB3 : Hid (Below w.heap.size w w3) := go_on HB2.out hb
  have HM3 : Hid (MO w3 ob A M N) := HM.out.below HB3.out
  clear hb
  by_cases c1 : p = x
  · have c1a : ((p : Int) == (x : Int)) = true := by rw [beq_iff_eq]; omega
    have HE1 : Hid (leE A.k.toNat N x y = decide (q = x)) := by show _ = _; rw [HE.out]; simp [c1]
    clear c1
    go_wp2_with fail
    refine (HP2.out _ HM3.out).mono ?_
    rintro e w4 ⟨rfl, hb⟩
    have HB4 : Hid (Below w.heap.size w w4) := go_on HB3.out hb
    clear hb
    by_cases c2 : q = x
    · have c2a : ((q : Int) == (x : Int)) = true := by rw [beq_iff_eq]; omega
      have HE2 : Hid (leE A.k.toNat N x y = true) := by show _ = _; rw [HE1.out]; exact decide_eq_true c2
      clear c2
      go_wp2_with fail
      go_ret2
      exact ⟨by rw [HE2.out]; rfl, HB4.out⟩
    · have c2a : ((q : Int) == (x : Int)) = false := by rw [beq_eq_false_iff_ne]; omega
      have HE2 : Hid (leE A.k.toNat N x y = false) := by show _ = _; rw [HE1.out]; exact decide_eq_false c2
      clear c2
      go_wp2_with fail
      go_ret2
      exact ⟨by rw [HE2.out]; rfl, HB4.out⟩
  · have c1a : ((p : Int) == (x : Int)) = false := by rw [beq_eq_false_iff_ne]; omega
    have HE1 : Hid (leE A.k.toNat N x y = false) := by show _ = _; rw [HE.out]; exact decide_eq_false (fun q => c1 q.1)
    clear c1
    go_wp2_with fail
    go_ret2
    exact ⟨by rw [HE1.out]; rfl, HB3.out⟩

/-- Is it of the monoid at e? -/
def btE (K : Nat) (N : List Nat) (e i : Nat) : Bool := decide (pr K N (pr K N e i) e = i)

set_option maxHeartbeats 1000000 in
set_option maxRecDepth 100000 in
theorem between1_any {w : World} {ob : Nat} {A : Aut} {M : List (List Nat)} {N : List Nat} (h : MO w ob A M N) (b b2 x : Nat) (hc : w.cell? ⟨b, 0, none⟩ = some (.pointer (some ⟨ob, 0, none⟩))) (hc2 : w.cell? ⟨b2, 0, none⟩ = some (.int .i64 (x : Nat))) (hx : x < M.length) (i : Nat) (hi : i < M.length) :
    Calls Try.prog 58 #[.int .i64 (i : Nat), .pointer (some ⟨b, 0, none⟩), .pointer (some ⟨b2, 0, none⟩)] w fun e w' => e = .returned (.bool (btE A.k.toNat N x i)) ∧ Below w.heap.size w w' := by
  have HP : Hid _ := iprod_three h x i x hx hi hx
  obtain ⟨p, hp⟩ : ∃ p, pr A.k.toNat N (pr A.k.toNat N x i) x = p := ⟨_, rfl⟩
  have HE : Hid (btE A.k.toNat N x i = decide (p = i)) := by show _ = _; unfold btE; rw [hp]
  rw [hp] at HP
  clear h hp
  go_enter Try.func58, Try.ntmps58
  go_wp2_with fail
  refine Calls.mono HP.out ?_
  rintro e w1 ⟨rfl, hb⟩
  have HB : Hid (Below w.heap.size w w1) := hb
  clear hb
  by_cases c : p = i
  · have c1 : ((p : Int) == (i : Int)) = true := by rw [beq_iff_eq]; omega
    have HE2 : Hid (btE A.k.toNat N x i = true) := by show _ = _; rw [HE.out]; exact decide_eq_true c
    clear c
    go_wp2_with fail
    go_ret
    exact ⟨by rw [HE2.out]; rfl, HB.out⟩
  · have c1 : ((p : Int) == (i : Int)) = false := by rw [beq_eq_false_iff_ne]; omega
    have HE2 : Hid (btE A.k.toNat N x i = false) := by show _ = _; rw [HE.out]; exact decide_eq_false c
    clear c
    go_wp2_with fail
    go_ret
    exact ⟨by rw [HE2.out]; rfl, HB.out⟩

set_option maxHeartbeats 1000000 in
set_option maxRecDepth 100000 in
theorem iBetween_ok {w : World} {ob : Nat} {A : Aut} {M : List (List Nat)} {N : List Nat} (h : MO w ob A M N) (x : Nat) (hx : x < M.length) (hxx : pr A.k.toNat N x x = x) :
    Calls Try.prog 31 #[.pointer (some ⟨ob, 0, none⟩), .int .i64 (x : Nat)] w (LsQ (thL M.length (btE A.k.toNat N x)) w) := by
  obtain ⟨w2, hw2⟩ : ∃ w2, w2 = (w.alloc (.cells #[.pointer (some ⟨ob, 0, none⟩)] 22)).alloc (.cells #[.int .i64 (x : Nat)] 3) := ⟨_, rfl⟩
  have HB2 : Hid (Below w.heap.size w w2) := by show Below _ _ _; rw [hw2]; exact go_on (below_new _ _) (below_new _ _)
  have HM : Hid (MO w ob A M N) := h
  have HW2 : Hid (w2 = (w.alloc (.cells #[.pointer (some ⟨ob, 0, none⟩)] 22)).alloc (.cells #[.int .i64 (x : Nat)] 3)) := hw2
  have HC1 : Hid (w2.cell? ⟨w.heap.size, 0, none⟩ = some (.pointer (some ⟨ob, 0, none⟩))) := by
    show _ = _
    have e : w2.heap[w.heap.size]? = some (.cells #[.pointer (some ⟨ob, 0, none⟩)] 22 (0, 0)) := by rw [hw2, heap_allo (by simp)]; exact heap_last _ _
    exact cell_at e rfl
  have HC2 : Hid (w2.cell? ⟨w.heap.size + 1, 0, none⟩ = some (.int .i64 (x : Nat))) := by
    show _ = _
    have e : w2.heap[w.heap.size + 1]? = some (.cells #[.int .i64 (x : Nat)] 3 (0, 0)) := by
      rw [hw2]
      have := heap_last (w.alloc (.cells #[.pointer (some ⟨ob, 0, none⟩)] 22)) (.cells #[.int .i64 (x : Nat)] 3)
      rwa [World.size_alloc] at this
    exact cell_at e rfl
  have hz2 : w2.heap.size = w.heap.size + 2 := by rw [hw2]; simp
  have HZ2 : Hid (w2.heap.size = w.heap.size + 2) := hz2
  have HCK : Hid (Calls Try.prog 57 #[.pointer (some ⟨ob, 0, none⟩), .slice (some ⟨w.heap.size + 2, 0, none⟩) 1 1] (w2.alloc (.cells #[.int .i64 (x : Nat)] 3)) fun e w' => e = .returned (.int .i64 0) ∧ Below (w2.alloc (.cells #[.int .i64 (x : Nat)] 3)).heap.size (w2.alloc (.cells #[.int .i64 (x : Nat)] 3)) w') := by
    show Calls _ _ _ _ _
    have q := icheckI_ok ((h.below HB2.out).below (below_new w2 (.cells #[.int .i64 (x : Nat)] 3))) (some ⟨w2.heap.size, 0, none⟩) 1 [x] (by simp; exact ⟨hx, hxx⟩) (sr_new w2 [x] 3) (by simp)
    rw [hz2] at q
    exact q
  have HT : Hid (∀ u, Below w2.heap.size w2 u → Calls Try.prog 47 #[.pointer (some ⟨ob, 0, none⟩), .func (.func 58) #[] #[.pointer (some ⟨w.heap.size, 0, none⟩), .pointer (some ⟨w.heap.size + 1, 0, none⟩)]] u fun e w' => ∃ v, e = .returned v ∧ OwnN w' u.heap.size v (thL M.length (btE A.k.toNat N x)) ∧ Below u.heap.size u w') := fun u hu =>
    those_any (HM.out.below (go_on HB2.out hu)) 58 _ _ (enters_of Try.func58 (by kernel_rfl) rfl) (fun y i hy hi => between1_any (HM.out.below (go_on (go_on HB2.out hu) hy)) w.heap.size (w.heap.size + 1) x (by rw [below_cellJ (go_on hu hy) (by omega)]; exact HC1.out) (by rw [below_cellJ (go_on hu hy) (by omega)]; exact HC2.out) hx i hi)
  clear h hw2 hz2
  go_enter Try.func31, Try.ntmps31
  go_wp2_with fail
  rw [← HW2.out]
  refine HCK.out.mono ?_
  rintro e w3 ⟨rfl, hb⟩
  have HB3 : Hid (Below w2.heap.size w2 w3) := go_on (below_new _ _) hb
  have hc1 : w3.cell? ⟨w.heap.size, 0, none⟩ = some (.pointer (some ⟨ob, 0, none⟩)) := by rw [below_cellJ HB3.out (by rw [HZ2.out]; omega)]; exact HC1.out
  clear hb
  go_wp2_with fail
  refine (HT.out _ HB3.out).mono ?_
  rintro e w4 ⟨v, rfl, ho, hb⟩
  have HO : Hid (OwnN w4 w.heap.size v (thL M.length (btE A.k.toNat N x))) := own_mono ho (by have := HB3.out.size; have := HZ2.out; omega)
  have HB4 : Hid (Below w.heap.size w w4) := go_on (go_on HB2.out HB3.out) hb
  clear ho hb hc1
  go_wp2_with fail
  go_ret2
  exact ⟨_, rfl, HO.out, HB4.out⟩
end Go.Proofs.Ytafcejipoioigaa

namespace Go.Proofs.Ytafcejipoioigaa
open Go Go.RowKit Go.Lib Go.Maps
set_option linter.unusedVariables false
attribute [-instance] List.instBEq instBEqProd

/-- Is j an inverse of i? -/
def inE (K : Nat) (N : List Nat) (i j : Nat) : Bool := decide (pr K N (pr K N i j) i = i ∧ pr K N (pr K N j i) j = j)

set_option maxHeartbeats 4000000 in
set_option maxRecDepth 100000 in
theorem inverses1_any {w : World} {ob : Nat} {A : Aut} {M : List (List Nat)} {N : List Nat} (h : MO w ob A M N) (b b2 i : Nat) (hc : w.cell? ⟨b, 0, none⟩ = some (.pointer (some ⟨ob, 0, none⟩))) (hc2 : w.cell? ⟨b2, 0, none⟩ = some (.int .i64 (i : Nat))) (hi : i < M.length) (j : Nat) (hj : j < M.length) :
    Calls Try.prog 56 #[.int .i64 (j : Nat), .pointer (some ⟨b, 0, none⟩), .pointer (some ⟨b2, 0, none⟩)] w fun e w' => e = .returned (.bool (inE A.k.toNat N i j)) ∧ Below w.heap.size w w' := by
  have HM : Hid (∀ y, Below w.heap.size w y → MO y ob A M N) := fun y hy => h.below hy
  have HC : Hid (∀ y, Below w.heap.size w y → y.cell? ⟨b, 0, none⟩ = some (.pointer (some ⟨ob, 0, none⟩)) ∧ y.cell? ⟨b2, 0, none⟩ = some (.int .i64 (i : Nat))) := fun y hy =>
    ⟨by rw [below_cellJ hy (World.block_lt_of_cell? _ _ hc)]; exact hc, by rw [below_cellJ hy (World.block_lt_of_cell? _ _ hc2)]; exact hc2⟩
  have HP1 : Hid (∀ u, MO u ob A M N → Calls Try.prog 55 #[.pointer (some ⟨ob, 0, none⟩), .slice (some ⟨u.heap.size, 0, none⟩) 3 3] (u.alloc (.cells #[.int .i64 (i : Nat), .int .i64 (j : Nat), .int .i64 (i : Nat)] 3)) fun e w' => e = .returned (.int .i64 (pr A.k.toNat N (pr A.k.toNat N i j) i : Nat)) ∧ Below u.heap.size u w') := fun u hu => iprod_three hu i j i hi hj hi
  have HP2 : Hid (∀ u, MO u ob A M N → Calls Try.prog 55 #[.pointer (some ⟨ob, 0, none⟩), .slice (some ⟨u.heap.size, 0, none⟩) 3 3] (u.alloc (.cells #[.int .i64 (j : Nat), .int .i64 (i : Nat), .int .i64 (j : Nat)] 3)) fun e w' => e = .returned (.int .i64 (pr A.k.toNat N (pr A.k.toNat N j i) j : Nat)) ∧ Below u.heap.size u w') := fun u hu => iprod_three hu j i j hj hi hj
  obtain ⟨p, hp⟩ : ∃ p, pr A.k.toNat N (pr A.k.toNat N i j) i = p := ⟨_, rfl⟩
  obtain ⟨q, hq⟩ : ∃ q, pr A.k.toNat N (pr A.k.toNat N j i) j = q := ⟨_, rfl⟩
  have HE : Hid (inE A.k.toNat N i j = decide (p = i ∧ q = j)) := by show _ = _; unfold inE; rw [hp, hq]
  rw [hp] at HP1
  rw [hq] at HP2
  clear h hc hc2 hp hq
  go_enter Try.func56, Try.ntmps56
  go_wp2_with fail
  by_cases c1 : p = i
  · have c1a : ((p : Int) == (i : Int)) = true := by rw [beq_iff_eq]; omega
    by_cases c2 : q = j
    · have c2a : ((q : Int) == (j : Int)) = true := by rw [beq_iff_eq]; omega
      have HE2 : Hid (inE A.k.toNat N i j = true) := by show _ = _; rw [HE.out]; exact decide_eq_true ⟨c1, c2⟩
      clear c1 c2
      refine wp_region_held_drew (S := fun w' => Below w.heap.size w w') (by kernel_rfl) (Below.refl _ _).drew (fun hH0 => ?_)
      generalize w.drew = y0 at hH0 ⊢
      refine wpAnyH_take (i := 0) (oi := { dst := some 5, op := Go.Op.load 22 (Go.Operand.tmp 1), type := 22, pos := "idem.go:91", after := #[], guard := none }) (v := .pointer (some ⟨ob, 0, none⟩)) rfl (by kernel_rfl) (by kernel_rfl) (by kernel_rfl) (fun _ _ _ h => h) (Or.inl ⟨by rfl, ?_⟩) (by assumption) ?_
      · intro w' hS; have hz := (HC.out w' hS).1; go_simp
      simp only [Act.put, List.setIfInBounds_toArray, List.set_cons_zero, List.set_cons_succ]
      refine wpAnyH_take (i := 1) (oi := { dst := some 6, op := Go.Op.load 3 (Go.Operand.tmp 2), type := 3, pos := "idem.go:91", after := #[], guard := none }) (v := .int .i64 (i : Nat)) rfl (by kernel_rfl) (by kernel_rfl) (by kernel_rfl) (fun _ _ _ h => h) (Or.inl ⟨by rfl, ?_⟩) (by assumption) ?_
      · intro w' hS; have hz := (HC.out w' hS).2; go_simp
      simp only [Act.put, List.setIfInBounds_toArray, List.set_cons_zero, List.set_cons_succ]
      refine wpAnyH_take (i := 2) (oi := { dst := some 7, op := Go.Op.move (Go.Operand.tmp 0), type := 3, pos := "idem.go:91", after := #[], guard := none }) (v := ?_) rfl (by kernel_rfl) (by kernel_rfl) (by kernel_rfl) (fun _ _ _ h => h) (Or.inl ⟨by rfl, ?_⟩) (by assumption) ?_
      rotate_left
      · intro w' hS; go_simp; (try with_reducible rfl)
      simp only [Act.put, List.setIfInBounds_toArray, List.set_cons_zero, List.set_cons_succ]
      refine wpAnyH_take (i := 3) (oi := { dst := some 8, op := Go.Op.load 3 (Go.Operand.tmp 2), type := 3, pos := "idem.go:91", after := #[], guard := none }) (v := .int .i64 (i : Nat)) rfl (by kernel_rfl) (by kernel_rfl) (by kernel_rfl) (fun _ _ _ h => h) (Or.inl ⟨by rfl, ?_⟩) (by assumption) ?_
      · intro w' hS; have hz := (HC.out w' hS).2; go_simp
      simp only [Act.put, List.setIfInBounds_toArray, List.set_cons_zero, List.set_cons_succ]
      refine wpAnyH_take (i := 6) (oi := { dst := some 11, op := Go.Op.load 3 (Go.Operand.tmp 2), type := 3, pos := "idem.go:91", after := #[], guard := none }) (v := .int .i64 (i : Nat)) rfl (by kernel_rfl) (by kernel_rfl) (by kernel_rfl) (fun _ _ _ h => h) (Or.inl ⟨by rfl, ?_⟩) (by assumption) ?_
      · intro w' hS; have hz := (HC.out w' hS).2; go_simp
      simp only [Act.put, List.setIfInBounds_toArray, List.set_cons_zero, List.set_cons_succ]
      refine wpAnyH_ready (rs := [4]) (by kernel_rfl) (by simp) ?_
      refine AllReadyH.cons rfl (fun K hK => ?_) AllReadyH.nil
      go_simp
      refine hK.out _ _ (go_on hH0 (below_new _ _)) (fun hH1 => ?_)
      clear hK K
      refine wpAnyH_ready (rs := [5]) (by kernel_rfl) (by simp) ?_
      refine AllReadyH.cons rfl (fun K hK => ?_) AllReadyH.nil
      go_simp
      refine (HP1.out _ (HM.out _ hH0)).mono ?_
      rintro e y2 ⟨rfl, hB⟩
      have hN : Below w.heap.size w y2 := go_on hH0 hB
      clear hB
      go_wp2_with fail
      refine hK.out _ _ hN (fun hH2 => ?_)
      clear hN
      clear hK K
      refine wpAnyH_take (i := 7) (oi := { dst := some 12, op := Go.Op.binOp Go.BinOp.eql 3 (Go.Operand.tmp 10) (Go.Operand.tmp 11) 3, type := 4, pos := "idem.go:91", after := #[{ on := 5, ground := Go.Ground.data }, { on := 6, ground := Go.Ground.data }], guard := none }) (v := .bool true) rfl (by kernel_rfl) (by kernel_rfl) (by kernel_rfl) (fun _ _ _ h => h) (Or.inl ⟨by rfl, ?_⟩) (by assumption) ?_
      · intro w' hS; go_simp
      simp only [Act.put, List.setIfInBounds_toArray, List.set_cons_zero, List.set_cons_succ]
      refine wpAnyH_take (i := 8) (oi := { dst := some 13, op := Go.Op.move (Go.Operand.tmp 12), type := 4, pos := "idem.go:91", after := #[{ on := 7, ground := Go.Ground.data }, { on := 5, ground := Go.Ground.chain }], guard := none }) (v := ?_) rfl (by kernel_rfl) (by kernel_rfl) (by kernel_rfl) (fun _ _ _ h => h) (Or.inl ⟨by rfl, ?_⟩) (by assumption) ?_
      rotate_left
      · intro w' hS; go_simp; (try with_reducible rfl)
      simp only [Act.put, List.setIfInBounds_toArray, List.set_cons_zero, List.set_cons_succ]
      refine wpAnyH_take (i := 9) (oi := { dst := some 14, op := Go.Op.load 22 (Go.Operand.tmp 1), type := 22, pos := "idem.go:91", after := #[{ on := 8, ground := Go.Ground.guard }], guard := some (8, true) }) (v := .pointer (some ⟨ob, 0, none⟩)) rfl (by kernel_rfl) (by kernel_rfl) (by kernel_rfl) (fun _ _ _ h => h) (Or.inl ⟨by rfl, ?_⟩) (by assumption) ?_
      · intro w' hS; have hz := (HC.out w' hS).1; go_simp
      simp only [Act.put, List.setIfInBounds_toArray, List.set_cons_zero, List.set_cons_succ]
      refine wpAnyH_take (i := 10) (oi := { dst := some 15, op := Go.Op.move (Go.Operand.tmp 0), type := 3, pos := "idem.go:91", after := #[{ on := 8, ground := Go.Ground.guard }], guard := some (8, true) }) (v := ?_) rfl (by kernel_rfl) (by kernel_rfl) (by kernel_rfl) (fun _ _ _ h => h) (Or.inl ⟨by rfl, ?_⟩) (by assumption) ?_
      rotate_left
      · intro w' hS; go_simp; (try with_reducible rfl)
      simp only [Act.put, List.setIfInBounds_toArray, List.set_cons_zero, List.set_cons_succ]
      refine wpAnyH_take (i := 11) (oi := { dst := some 16, op := Go.Op.load 3 (Go.Operand.tmp 2), type := 3, pos := "idem.go:91", after := #[{ on := 8, ground := Go.Ground.guard }], guard := some (8, true) }) (v := .int .i64 (i : Nat)) rfl (by kernel_rfl) (by kernel_rfl) (by kernel_rfl) (fun _ _ _ h => h) (Or.inl ⟨by rfl, ?_⟩) (by assumption) ?_
      · intro w' hS; have hz := (HC.out w' hS).2; go_simp
      simp only [Act.put, List.setIfInBounds_toArray, List.set_cons_zero, List.set_cons_succ]
      refine wpAnyH_take (i := 12) (oi := { dst := some 17, op := Go.Op.move (Go.Operand.tmp 0), type := 3, pos := "idem.go:91", after := #[{ on := 8, ground := Go.Ground.guard }], guard := some (8, true) }) (v := ?_) rfl (by kernel_rfl) (by kernel_rfl) (by kernel_rfl) (fun _ _ _ h => h) (Or.inl ⟨by rfl, ?_⟩) (by assumption) ?_
      rotate_left
      · intro w' hS; go_simp; (try with_reducible rfl)
      simp only [Act.put, List.setIfInBounds_toArray, List.set_cons_zero, List.set_cons_succ]
      refine wpAnyH_take (i := 15) (oi := { dst := some 20, op := Go.Op.move (Go.Operand.tmp 0), type := 3, pos := "idem.go:91", after := #[{ on := 8, ground := Go.Ground.guard }], guard := some (8, true) }) (v := ?_) rfl (by kernel_rfl) (by kernel_rfl) (by kernel_rfl) (fun _ _ _ h => h) (Or.inl ⟨by rfl, ?_⟩) (by assumption) ?_
      rotate_left
      · intro w' hS; go_simp; (try with_reducible rfl)
      simp only [Act.put, List.setIfInBounds_toArray, List.set_cons_zero, List.set_cons_succ]
      refine wpAnyH_ready (rs := [13]) (by kernel_rfl) (by simp) ?_
      refine AllReadyH.cons rfl (fun K hK => ?_) AllReadyH.nil
      go_simp
      refine hK.out _ _ (go_on hH2 (below_new _ _)) (fun hH3 => ?_)
      clear hK K
      refine wpAnyH_ready (rs := [14]) (by kernel_rfl) (by simp) ?_
      refine AllReadyH.cons rfl (fun K hK => ?_) AllReadyH.nil
      go_simp
      refine (HP2.out _ (HM.out _ hH2)).mono ?_
      rintro e y4 ⟨rfl, hB⟩
      have hN : Below w.heap.size w y4 := go_on hH2 hB
      clear hB
      go_wp2_with fail
      refine hK.out _ _ hN (fun hH4 => ?_)
      clear hN
      clear hK K
      refine wpAnyH_take (i := 16) (oi := { dst := some 21, op := Go.Op.binOp Go.BinOp.eql 3 (Go.Operand.tmp 19) (Go.Operand.tmp 20) 3, type := 4, pos := "idem.go:91", after := #[{ on := 14, ground := Go.Ground.data }, { on := 15, ground := Go.Ground.data }, { on := 8, ground := Go.Ground.guard }], guard := some (8, true) }) (v := .bool true) rfl (by kernel_rfl) (by kernel_rfl) (by kernel_rfl) (fun _ _ _ h => h) (Or.inl ⟨by rfl, ?_⟩) (by assumption) ?_
      · intro w' hS; go_simp
      simp only [Act.put, List.setIfInBounds_toArray, List.set_cons_zero, List.set_cons_succ]
      refine wpAnyH_take (i := 17) (oi := { dst := some 22, op := Go.Op.pick (Go.Operand.tmp 13) (Go.Operand.tmp 21) (Go.Operand.const (Go.Value.bool false)), type := 4, pos := "idem.go:91", after := #[{ on := 8, ground := Go.Ground.data }, { on := 16, ground := Go.Ground.data }], guard := none }) (v := ?_) rfl (by kernel_rfl) (by kernel_rfl) (by kernel_rfl) (fun _ _ _ h => h) (Or.inl ⟨by rfl, ?_⟩) (by assumption) ?_
      rotate_left
      · intro w' hS; go_simp; (try with_reducible rfl)
      simp only [Act.put, List.setIfInBounds_toArray, List.set_cons_zero, List.set_cons_succ]
      refine wpAnyH_take (i := 18) (oi := { dst := some 4, op := Go.Op.assign (Go.Operand.tmp 22), type := 4, pos := "idem.go:91", after := #[{ on := 17, ground := Go.Ground.data }, { on := 14, ground := Go.Ground.chain }, { on := 0, ground := Go.Ground.phase }, { on := 1, ground := Go.Ground.phase }, { on := 2, ground := Go.Ground.phase }, { on := 3, ground := Go.Ground.phase }, { on := 4, ground := Go.Ground.phase }, { on := 5, ground := Go.Ground.phase }, { on := 6, ground := Go.Ground.phase }, { on := 7, ground := Go.Ground.phase }, { on := 8, ground := Go.Ground.phase }, { on := 9, ground := Go.Ground.phase }, { on := 10, ground := Go.Ground.phase }, { on := 11, ground := Go.Ground.phase }, { on := 12, ground := Go.Ground.phase }, { on := 13, ground := Go.Ground.phase }, { on := 14, ground := Go.Ground.phase }, { on := 15, ground := Go.Ground.phase }, { on := 16, ground := Go.Ground.phase }, { on := 17, ground := Go.Ground.phase }], guard := none }) (v := ?_) rfl (by kernel_rfl) (by kernel_rfl) (by kernel_rfl) (fun _ _ _ h => h) (Or.inl ⟨by rfl, ?_⟩) (by assumption) ?_
      rotate_left
      · intro w' hS; go_simp; (try with_reducible rfl)
      simp only [Act.put, List.setIfInBounds_toArray, List.set_cons_zero, List.set_cons_succ]
      refine wpAnyH_done (by kernel_rfl) ?_ _
      go_wp2_with fail
      go_ret
      exact ⟨by rw [HE2.out]; rfl, hH4⟩
    · have c2a : ((q : Int) == (j : Int)) = false := by rw [beq_eq_false_iff_ne]; omega
      have HE2 : Hid (inE A.k.toNat N i j = false) := by show _ = _; rw [HE.out]; exact decide_eq_false (fun q => c2 q.2)
      clear c1 c2
      refine wp_region_held_drew (S := fun w' => Below w.heap.size w w') (by kernel_rfl) (Below.refl _ _).drew (fun hH0 => ?_)
      generalize w.drew = y0 at hH0 ⊢
      refine wpAnyH_take (i := 0) (oi := { dst := some 5, op := Go.Op.load 22 (Go.Operand.tmp 1), type := 22, pos := "idem.go:91", after := #[], guard := none }) (v := .pointer (some ⟨ob, 0, none⟩)) rfl (by kernel_rfl) (by kernel_rfl) (by kernel_rfl) (fun _ _ _ h => h) (Or.inl ⟨by rfl, ?_⟩) (by assumption) ?_
      · intro w' hS; have hz := (HC.out w' hS).1; go_simp
      simp only [Act.put, List.setIfInBounds_toArray, List.set_cons_zero, List.set_cons_succ]
      refine wpAnyH_take (i := 1) (oi := { dst := some 6, op := Go.Op.load 3 (Go.Operand.tmp 2), type := 3, pos := "idem.go:91", after := #[], guard := none }) (v := .int .i64 (i : Nat)) rfl (by kernel_rfl) (by kernel_rfl) (by kernel_rfl) (fun _ _ _ h => h) (Or.inl ⟨by rfl, ?_⟩) (by assumption) ?_
      · intro w' hS; have hz := (HC.out w' hS).2; go_simp
      simp only [Act.put, List.setIfInBounds_toArray, List.set_cons_zero, List.set_cons_succ]
      refine wpAnyH_take (i := 2) (oi := { dst := some 7, op := Go.Op.move (Go.Operand.tmp 0), type := 3, pos := "idem.go:91", after := #[], guard := none }) (v := ?_) rfl (by kernel_rfl) (by kernel_rfl) (by kernel_rfl) (fun _ _ _ h => h) (Or.inl ⟨by rfl, ?_⟩) (by assumption) ?_
      rotate_left
      · intro w' hS; go_simp; (try with_reducible rfl)
      simp only [Act.put, List.setIfInBounds_toArray, List.set_cons_zero, List.set_cons_succ]
      refine wpAnyH_take (i := 3) (oi := { dst := some 8, op := Go.Op.load 3 (Go.Operand.tmp 2), type := 3, pos := "idem.go:91", after := #[], guard := none }) (v := .int .i64 (i : Nat)) rfl (by kernel_rfl) (by kernel_rfl) (by kernel_rfl) (fun _ _ _ h => h) (Or.inl ⟨by rfl, ?_⟩) (by assumption) ?_
      · intro w' hS; have hz := (HC.out w' hS).2; go_simp
      simp only [Act.put, List.setIfInBounds_toArray, List.set_cons_zero, List.set_cons_succ]
      refine wpAnyH_take (i := 6) (oi := { dst := some 11, op := Go.Op.load 3 (Go.Operand.tmp 2), type := 3, pos := "idem.go:91", after := #[], guard := none }) (v := .int .i64 (i : Nat)) rfl (by kernel_rfl) (by kernel_rfl) (by kernel_rfl) (fun _ _ _ h => h) (Or.inl ⟨by rfl, ?_⟩) (by assumption) ?_
      · intro w' hS; have hz := (HC.out w' hS).2; go_simp
      simp only [Act.put, List.setIfInBounds_toArray, List.set_cons_zero, List.set_cons_succ]
      refine wpAnyH_ready (rs := [4]) (by kernel_rfl) (by simp) ?_
      refine AllReadyH.cons rfl (fun K hK => ?_) AllReadyH.nil
      go_simp
      refine hK.out _ _ (go_on hH0 (below_new _ _)) (fun hH1 => ?_)
      clear hK K
      refine wpAnyH_ready (rs := [5]) (by kernel_rfl) (by simp) ?_
      refine AllReadyH.cons rfl (fun K hK => ?_) AllReadyH.nil
      go_simp
      refine (HP1.out _ (HM.out _ hH0)).mono ?_
      rintro e y2 ⟨rfl, hB⟩
      have hN : Below w.heap.size w y2 := go_on hH0 hB
      clear hB
      go_wp2_with fail
      refine hK.out _ _ hN (fun hH2 => ?_)
      clear hN
      clear hK K
      refine wpAnyH_take (i := 7) (oi := { dst := some 12, op := Go.Op.binOp Go.BinOp.eql 3 (Go.Operand.tmp 10) (Go.Operand.tmp 11) 3, type := 4, pos := "idem.go:91", after := #[{ on := 5, ground := Go.Ground.data }, { on := 6, ground := Go.Ground.data }], guard := none }) (v := .bool true) rfl (by kernel_rfl) (by kernel_rfl) (by kernel_rfl) (fun _ _ _ h => h) (Or.inl ⟨by rfl, ?_⟩) (by assumption) ?_
      · intro w' hS; go_simp
      simp only [Act.put, List.setIfInBounds_toArray, List.set_cons_zero, List.set_cons_succ]
      refine wpAnyH_take (i := 8) (oi := { dst := some 13, op := Go.Op.move (Go.Operand.tmp 12), type := 4, pos := "idem.go:91", after := #[{ on := 7, ground := Go.Ground.data }, { on := 5, ground := Go.Ground.chain }], guard := none }) (v := ?_) rfl (by kernel_rfl) (by kernel_rfl) (by kernel_rfl) (fun _ _ _ h => h) (Or.inl ⟨by rfl, ?_⟩) (by assumption) ?_
      rotate_left
      · intro w' hS; go_simp; (try with_reducible rfl)
      simp only [Act.put, List.setIfInBounds_toArray, List.set_cons_zero, List.set_cons_succ]
      refine wpAnyH_take (i := 9) (oi := { dst := some 14, op := Go.Op.load 22 (Go.Operand.tmp 1), type := 22, pos := "idem.go:91", after := #[{ on := 8, ground := Go.Ground.guard }], guard := some (8, true) }) (v := .pointer (some ⟨ob, 0, none⟩)) rfl (by kernel_rfl) (by kernel_rfl) (by kernel_rfl) (fun _ _ _ h => h) (Or.inl ⟨by rfl, ?_⟩) (by assumption) ?_
      · intro w' hS; have hz := (HC.out w' hS).1; go_simp
      simp only [Act.put, List.setIfInBounds_toArray, List.set_cons_zero, List.set_cons_succ]
      refine wpAnyH_take (i := 10) (oi := { dst := some 15, op := Go.Op.move (Go.Operand.tmp 0), type := 3, pos := "idem.go:91", after := #[{ on := 8, ground := Go.Ground.guard }], guard := some (8, true) }) (v := ?_) rfl (by kernel_rfl) (by kernel_rfl) (by kernel_rfl) (fun _ _ _ h => h) (Or.inl ⟨by rfl, ?_⟩) (by assumption) ?_
      rotate_left
      · intro w' hS; go_simp; (try with_reducible rfl)
      simp only [Act.put, List.setIfInBounds_toArray, List.set_cons_zero, List.set_cons_succ]
      refine wpAnyH_take (i := 11) (oi := { dst := some 16, op := Go.Op.load 3 (Go.Operand.tmp 2), type := 3, pos := "idem.go:91", after := #[{ on := 8, ground := Go.Ground.guard }], guard := some (8, true) }) (v := .int .i64 (i : Nat)) rfl (by kernel_rfl) (by kernel_rfl) (by kernel_rfl) (fun _ _ _ h => h) (Or.inl ⟨by rfl, ?_⟩) (by assumption) ?_
      · intro w' hS; have hz := (HC.out w' hS).2; go_simp
      simp only [Act.put, List.setIfInBounds_toArray, List.set_cons_zero, List.set_cons_succ]
      refine wpAnyH_take (i := 12) (oi := { dst := some 17, op := Go.Op.move (Go.Operand.tmp 0), type := 3, pos := "idem.go:91", after := #[{ on := 8, ground := Go.Ground.guard }], guard := some (8, true) }) (v := ?_) rfl (by kernel_rfl) (by kernel_rfl) (by kernel_rfl) (fun _ _ _ h => h) (Or.inl ⟨by rfl, ?_⟩) (by assumption) ?_
      rotate_left
      · intro w' hS; go_simp; (try with_reducible rfl)
      simp only [Act.put, List.setIfInBounds_toArray, List.set_cons_zero, List.set_cons_succ]
      refine wpAnyH_take (i := 15) (oi := { dst := some 20, op := Go.Op.move (Go.Operand.tmp 0), type := 3, pos := "idem.go:91", after := #[{ on := 8, ground := Go.Ground.guard }], guard := some (8, true) }) (v := ?_) rfl (by kernel_rfl) (by kernel_rfl) (by kernel_rfl) (fun _ _ _ h => h) (Or.inl ⟨by rfl, ?_⟩) (by assumption) ?_
      rotate_left
      · intro w' hS; go_simp; (try with_reducible rfl)
      simp only [Act.put, List.setIfInBounds_toArray, List.set_cons_zero, List.set_cons_succ]
      refine wpAnyH_ready (rs := [13]) (by kernel_rfl) (by simp) ?_
      refine AllReadyH.cons rfl (fun K hK => ?_) AllReadyH.nil
      go_simp
      refine hK.out _ _ (go_on hH2 (below_new _ _)) (fun hH3 => ?_)
      clear hK K
      refine wpAnyH_ready (rs := [14]) (by kernel_rfl) (by simp) ?_
      refine AllReadyH.cons rfl (fun K hK => ?_) AllReadyH.nil
      go_simp
      refine (HP2.out _ (HM.out _ hH2)).mono ?_
      rintro e y4 ⟨rfl, hB⟩
      have hN : Below w.heap.size w y4 := go_on hH2 hB
      clear hB
      go_wp2_with fail
      refine hK.out _ _ hN (fun hH4 => ?_)
      clear hN
      clear hK K
      refine wpAnyH_take (i := 16) (oi := { dst := some 21, op := Go.Op.binOp Go.BinOp.eql 3 (Go.Operand.tmp 19) (Go.Operand.tmp 20) 3, type := 4, pos := "idem.go:91", after := #[{ on := 14, ground := Go.Ground.data }, { on := 15, ground := Go.Ground.data }, { on := 8, ground := Go.Ground.guard }], guard := some (8, true) }) (v := .bool false) rfl (by kernel_rfl) (by kernel_rfl) (by kernel_rfl) (fun _ _ _ h => h) (Or.inl ⟨by rfl, ?_⟩) (by assumption) ?_
      · intro w' hS; go_simp
      simp only [Act.put, List.setIfInBounds_toArray, List.set_cons_zero, List.set_cons_succ]
      refine wpAnyH_take (i := 17) (oi := { dst := some 22, op := Go.Op.pick (Go.Operand.tmp 13) (Go.Operand.tmp 21) (Go.Operand.const (Go.Value.bool false)), type := 4, pos := "idem.go:91", after := #[{ on := 8, ground := Go.Ground.data }, { on := 16, ground := Go.Ground.data }], guard := none }) (v := ?_) rfl (by kernel_rfl) (by kernel_rfl) (by kernel_rfl) (fun _ _ _ h => h) (Or.inl ⟨by rfl, ?_⟩) (by assumption) ?_
      rotate_left
      · intro w' hS; go_simp; (try with_reducible rfl)
      simp only [Act.put, List.setIfInBounds_toArray, List.set_cons_zero, List.set_cons_succ]
      refine wpAnyH_take (i := 18) (oi := { dst := some 4, op := Go.Op.assign (Go.Operand.tmp 22), type := 4, pos := "idem.go:91", after := #[{ on := 17, ground := Go.Ground.data }, { on := 14, ground := Go.Ground.chain }, { on := 0, ground := Go.Ground.phase }, { on := 1, ground := Go.Ground.phase }, { on := 2, ground := Go.Ground.phase }, { on := 3, ground := Go.Ground.phase }, { on := 4, ground := Go.Ground.phase }, { on := 5, ground := Go.Ground.phase }, { on := 6, ground := Go.Ground.phase }, { on := 7, ground := Go.Ground.phase }, { on := 8, ground := Go.Ground.phase }, { on := 9, ground := Go.Ground.phase }, { on := 10, ground := Go.Ground.phase }, { on := 11, ground := Go.Ground.phase }, { on := 12, ground := Go.Ground.phase }, { on := 13, ground := Go.Ground.phase }, { on := 14, ground := Go.Ground.phase }, { on := 15, ground := Go.Ground.phase }, { on := 16, ground := Go.Ground.phase }, { on := 17, ground := Go.Ground.phase }], guard := none }) (v := ?_) rfl (by kernel_rfl) (by kernel_rfl) (by kernel_rfl) (fun _ _ _ h => h) (Or.inl ⟨by rfl, ?_⟩) (by assumption) ?_
      rotate_left
      · intro w' hS; go_simp; (try with_reducible rfl)
      simp only [Act.put, List.setIfInBounds_toArray, List.set_cons_zero, List.set_cons_succ]
      refine wpAnyH_done (by kernel_rfl) ?_ _
      go_wp2_with fail
      go_ret
      exact ⟨by rw [HE2.out]; rfl, hH4⟩
  · have c1a : ((p : Int) == (i : Int)) = false := by rw [beq_eq_false_iff_ne]; omega
    have HE2 : Hid (inE A.k.toNat N i j = false) := by show _ = _; rw [HE.out]; exact decide_eq_false (fun q => c1 q.1)
    clear c1
    refine wp_region_held_drew (S := fun w' => Below w.heap.size w w') (by kernel_rfl) (Below.refl _ _).drew (fun hH0 => ?_)
    generalize w.drew = y0 at hH0 ⊢
    refine wpAnyH_take (i := 0) (oi := { dst := some 5, op := Go.Op.load 22 (Go.Operand.tmp 1), type := 22, pos := "idem.go:91", after := #[], guard := none }) (v := .pointer (some ⟨ob, 0, none⟩)) rfl (by kernel_rfl) (by kernel_rfl) (by kernel_rfl) (fun _ _ _ h => h) (Or.inl ⟨by rfl, ?_⟩) (by assumption) ?_
    · intro w' hS; have hz := (HC.out w' hS).1; go_simp
    simp only [Act.put, List.setIfInBounds_toArray, List.set_cons_zero, List.set_cons_succ]
    refine wpAnyH_take (i := 1) (oi := { dst := some 6, op := Go.Op.load 3 (Go.Operand.tmp 2), type := 3, pos := "idem.go:91", after := #[], guard := none }) (v := .int .i64 (i : Nat)) rfl (by kernel_rfl) (by kernel_rfl) (by kernel_rfl) (fun _ _ _ h => h) (Or.inl ⟨by rfl, ?_⟩) (by assumption) ?_
    · intro w' hS; have hz := (HC.out w' hS).2; go_simp
    simp only [Act.put, List.setIfInBounds_toArray, List.set_cons_zero, List.set_cons_succ]
    refine wpAnyH_take (i := 2) (oi := { dst := some 7, op := Go.Op.move (Go.Operand.tmp 0), type := 3, pos := "idem.go:91", after := #[], guard := none }) (v := ?_) rfl (by kernel_rfl) (by kernel_rfl) (by kernel_rfl) (fun _ _ _ h => h) (Or.inl ⟨by rfl, ?_⟩) (by assumption) ?_
    rotate_left
    · intro w' hS; go_simp; (try with_reducible rfl)
    simp only [Act.put, List.setIfInBounds_toArray, List.set_cons_zero, List.set_cons_succ]
    refine wpAnyH_take (i := 3) (oi := { dst := some 8, op := Go.Op.load 3 (Go.Operand.tmp 2), type := 3, pos := "idem.go:91", after := #[], guard := none }) (v := .int .i64 (i : Nat)) rfl (by kernel_rfl) (by kernel_rfl) (by kernel_rfl) (fun _ _ _ h => h) (Or.inl ⟨by rfl, ?_⟩) (by assumption) ?_
    · intro w' hS; have hz := (HC.out w' hS).2; go_simp
    simp only [Act.put, List.setIfInBounds_toArray, List.set_cons_zero, List.set_cons_succ]
    refine wpAnyH_take (i := 6) (oi := { dst := some 11, op := Go.Op.load 3 (Go.Operand.tmp 2), type := 3, pos := "idem.go:91", after := #[], guard := none }) (v := .int .i64 (i : Nat)) rfl (by kernel_rfl) (by kernel_rfl) (by kernel_rfl) (fun _ _ _ h => h) (Or.inl ⟨by rfl, ?_⟩) (by assumption) ?_
    · intro w' hS; have hz := (HC.out w' hS).2; go_simp
    simp only [Act.put, List.setIfInBounds_toArray, List.set_cons_zero, List.set_cons_succ]
    refine wpAnyH_ready (rs := [4]) (by kernel_rfl) (by simp) ?_
    refine AllReadyH.cons rfl (fun K hK => ?_) AllReadyH.nil
    go_simp
    refine hK.out _ _ (go_on hH0 (below_new _ _)) (fun hH1 => ?_)
    clear hK K
    refine wpAnyH_ready (rs := [5]) (by kernel_rfl) (by simp) ?_
    refine AllReadyH.cons rfl (fun K hK => ?_) AllReadyH.nil
    go_simp
    refine (HP1.out _ (HM.out _ hH0)).mono ?_
    rintro e y2 ⟨rfl, hB⟩
    have hN : Below w.heap.size w y2 := go_on hH0 hB
    clear hB
    go_wp2_with fail
    refine hK.out _ _ hN (fun hH2 => ?_)
    clear hN
    clear hK K
    refine wpAnyH_take (i := 7) (oi := { dst := some 12, op := Go.Op.binOp Go.BinOp.eql 3 (Go.Operand.tmp 10) (Go.Operand.tmp 11) 3, type := 4, pos := "idem.go:91", after := #[{ on := 5, ground := Go.Ground.data }, { on := 6, ground := Go.Ground.data }], guard := none }) (v := .bool false) rfl (by kernel_rfl) (by kernel_rfl) (by kernel_rfl) (fun _ _ _ h => h) (Or.inl ⟨by rfl, ?_⟩) (by assumption) ?_
    · intro w' hS; go_simp
    simp only [Act.put, List.setIfInBounds_toArray, List.set_cons_zero, List.set_cons_succ]
    refine wpAnyH_take (i := 8) (oi := { dst := some 13, op := Go.Op.move (Go.Operand.tmp 12), type := 4, pos := "idem.go:91", after := #[{ on := 7, ground := Go.Ground.data }, { on := 5, ground := Go.Ground.chain }], guard := none }) (v := ?_) rfl (by kernel_rfl) (by kernel_rfl) (by kernel_rfl) (fun _ _ _ h => h) (Or.inl ⟨by rfl, ?_⟩) (by assumption) ?_
    rotate_left
    · intro w' hS; go_simp; (try with_reducible rfl)
    simp only [Act.put, List.setIfInBounds_toArray, List.set_cons_zero, List.set_cons_succ]
    refine wpAnyH_take (i := 9) (oi := { dst := some 14, op := Go.Op.load 22 (Go.Operand.tmp 1), type := 22, pos := "idem.go:91", after := #[{ on := 8, ground := Go.Ground.guard }], guard := some (8, true) }) (v := undef) rfl (by kernel_rfl) (by kernel_rfl) (by kernel_rfl) (fun _ _ _ h => h) (Or.inr ⟨by rfl, rfl⟩) (by assumption) ?_
    simp only [Act.put, List.setIfInBounds_toArray, List.set_cons_zero, List.set_cons_succ]
    refine wpAnyH_take (i := 10) (oi := { dst := some 15, op := Go.Op.move (Go.Operand.tmp 0), type := 3, pos := "idem.go:91", after := #[{ on := 8, ground := Go.Ground.guard }], guard := some (8, true) }) (v := undef) rfl (by kernel_rfl) (by kernel_rfl) (by kernel_rfl) (fun _ _ _ h => h) (Or.inr ⟨by rfl, rfl⟩) (by assumption) ?_
    simp only [Act.put, List.setIfInBounds_toArray, List.set_cons_zero, List.set_cons_succ]
    refine wpAnyH_take (i := 11) (oi := { dst := some 16, op := Go.Op.load 3 (Go.Operand.tmp 2), type := 3, pos := "idem.go:91", after := #[{ on := 8, ground := Go.Ground.guard }], guard := some (8, true) }) (v := undef) rfl (by kernel_rfl) (by kernel_rfl) (by kernel_rfl) (fun _ _ _ h => h) (Or.inr ⟨by rfl, rfl⟩) (by assumption) ?_
    simp only [Act.put, List.setIfInBounds_toArray, List.set_cons_zero, List.set_cons_succ]
    refine wpAnyH_take (i := 12) (oi := { dst := some 17, op := Go.Op.move (Go.Operand.tmp 0), type := 3, pos := "idem.go:91", after := #[{ on := 8, ground := Go.Ground.guard }], guard := some (8, true) }) (v := undef) rfl (by kernel_rfl) (by kernel_rfl) (by kernel_rfl) (fun _ _ _ h => h) (Or.inr ⟨by rfl, rfl⟩) (by assumption) ?_
    simp only [Act.put, List.setIfInBounds_toArray, List.set_cons_zero, List.set_cons_succ]
    refine wpAnyH_take (i := 15) (oi := { dst := some 20, op := Go.Op.move (Go.Operand.tmp 0), type := 3, pos := "idem.go:91", after := #[{ on := 8, ground := Go.Ground.guard }], guard := some (8, true) }) (v := undef) rfl (by kernel_rfl) (by kernel_rfl) (by kernel_rfl) (fun _ _ _ h => h) (Or.inr ⟨by rfl, rfl⟩) (by assumption) ?_
    simp only [Act.put, List.setIfInBounds_toArray, List.set_cons_zero, List.set_cons_succ]
    refine wpAnyH_ready (rs := [13]) (by kernel_rfl) (by simp) ?_
    refine AllReadyH.cons rfl (fun K hK => ?_) AllReadyH.nil
    go_simp
    refine hK.out _ _ hH2 (fun hH2 => ?_)
    clear hK K
    refine wpAnyH_ready (rs := [14]) (by kernel_rfl) (by simp) ?_
    refine AllReadyH.cons rfl (fun K hK => ?_) AllReadyH.nil
    go_simp
    refine hK.out _ _ hH2 (fun hH2 => ?_)
    clear hK K
    refine wpAnyH_take (i := 16) (oi := { dst := some 21, op := Go.Op.binOp Go.BinOp.eql 3 (Go.Operand.tmp 19) (Go.Operand.tmp 20) 3, type := 4, pos := "idem.go:91", after := #[{ on := 14, ground := Go.Ground.data }, { on := 15, ground := Go.Ground.data }, { on := 8, ground := Go.Ground.guard }], guard := some (8, true) }) (v := undef) rfl (by kernel_rfl) (by kernel_rfl) (by kernel_rfl) (fun _ _ _ h => h) (Or.inr ⟨by rfl, rfl⟩) (by assumption) ?_
    simp only [Act.put, List.setIfInBounds_toArray, List.set_cons_zero, List.set_cons_succ]
    refine wpAnyH_take (i := 17) (oi := { dst := some 22, op := Go.Op.pick (Go.Operand.tmp 13) (Go.Operand.tmp 21) (Go.Operand.const (Go.Value.bool false)), type := 4, pos := "idem.go:91", after := #[{ on := 8, ground := Go.Ground.data }, { on := 16, ground := Go.Ground.data }], guard := none }) (v := ?_) rfl (by kernel_rfl) (by kernel_rfl) (by kernel_rfl) (fun _ _ _ h => h) (Or.inl ⟨by rfl, ?_⟩) (by assumption) ?_
    rotate_left
    · intro w' hS; go_simp; (try with_reducible rfl)
    simp only [Act.put, List.setIfInBounds_toArray, List.set_cons_zero, List.set_cons_succ]
    refine wpAnyH_take (i := 18) (oi := { dst := some 4, op := Go.Op.assign (Go.Operand.tmp 22), type := 4, pos := "idem.go:91", after := #[{ on := 17, ground := Go.Ground.data }, { on := 14, ground := Go.Ground.chain }, { on := 0, ground := Go.Ground.phase }, { on := 1, ground := Go.Ground.phase }, { on := 2, ground := Go.Ground.phase }, { on := 3, ground := Go.Ground.phase }, { on := 4, ground := Go.Ground.phase }, { on := 5, ground := Go.Ground.phase }, { on := 6, ground := Go.Ground.phase }, { on := 7, ground := Go.Ground.phase }, { on := 8, ground := Go.Ground.phase }, { on := 9, ground := Go.Ground.phase }, { on := 10, ground := Go.Ground.phase }, { on := 11, ground := Go.Ground.phase }, { on := 12, ground := Go.Ground.phase }, { on := 13, ground := Go.Ground.phase }, { on := 14, ground := Go.Ground.phase }, { on := 15, ground := Go.Ground.phase }, { on := 16, ground := Go.Ground.phase }, { on := 17, ground := Go.Ground.phase }], guard := none }) (v := ?_) rfl (by kernel_rfl) (by kernel_rfl) (by kernel_rfl) (fun _ _ _ h => h) (Or.inl ⟨by rfl, ?_⟩) (by assumption) ?_
    rotate_left
    · intro w' hS; go_simp; (try with_reducible rfl)
    simp only [Act.put, List.setIfInBounds_toArray, List.set_cons_zero, List.set_cons_succ]
    refine wpAnyH_done (by kernel_rfl) ?_ _
    go_wp2_with fail
    go_ret
    exact ⟨by rw [HE2.out]; rfl, hH2⟩

set_option maxHeartbeats 1000000 in
set_option maxRecDepth 100000 in
theorem iInverses_ok {w : World} {ob : Nat} {A : Aut} {M : List (List Nat)} {N : List Nat} (h : MO w ob A M N) (x : Nat) (hx : x < M.length) :
    Calls Try.prog 27 #[.pointer (some ⟨ob, 0, none⟩), .int .i64 (x : Nat)] w (LsQ (thL M.length (inE A.k.toNat N x)) w) := by
  obtain ⟨w2, hw2⟩ : ∃ w2, w2 = (w.alloc (.cells #[.pointer (some ⟨ob, 0, none⟩)] 22)).alloc (.cells #[.int .i64 (x : Nat)] 3) := ⟨_, rfl⟩
  have HB2 : Hid (Below w.heap.size w w2) := by show Below _ _ _; rw [hw2]; exact go_on (below_new _ _) (below_new _ _)
  have HM : Hid (MO w ob A M N) := h
  have HW2 : Hid (w2 = (w.alloc (.cells #[.pointer (some ⟨ob, 0, none⟩)] 22)).alloc (.cells #[.int .i64 (x : Nat)] 3)) := hw2
  have HC1 : Hid (w2.cell? ⟨w.heap.size, 0, none⟩ = some (.pointer (some ⟨ob, 0, none⟩))) := by
    show _ = _
    have e : w2.heap[w.heap.size]? = some (.cells #[.pointer (some ⟨ob, 0, none⟩)] 22 (0, 0)) := by rw [hw2, heap_allo (by simp)]; exact heap_last _ _
    exact cell_at e rfl
  have HC2 : Hid (w2.cell? ⟨w.heap.size + 1, 0, none⟩ = some (.int .i64 (x : Nat))) := by
    show _ = _
    have e : w2.heap[w.heap.size + 1]? = some (.cells #[.int .i64 (x : Nat)] 3 (0, 0)) := by
      rw [hw2]
      have := heap_last (w.alloc (.cells #[.pointer (some ⟨ob, 0, none⟩)] 22)) (.cells #[.int .i64 (x : Nat)] 3)
      rwa [World.size_alloc] at this
    exact cell_at e rfl
  have hz2 : w2.heap.size = w.heap.size + 2 := by rw [hw2]; simp
  have HZ2 : Hid (w2.heap.size = w.heap.size + 2) := hz2
  have HCK : Hid (Calls Try.prog 43 #[.pointer (some ⟨ob, 0, none⟩), .slice (some ⟨w.heap.size + 2, 0, none⟩) 1 1] (w2.alloc (.cells #[.int .i64 (x : Nat)] 3)) fun e w' => e = .returned (.int .i64 0) ∧ w' = w2.alloc (.cells #[.int .i64 (x : Nat)] 3)) := by
    show Calls _ _ _ _ _
    have q := icheck_one (h.below HB2.out) (x : Int)
    rw [if_pos (show hasE M.length (x : Int) = true from decide_eq_true ⟨by omega, by omega⟩), hz2] at q
    exact q
  have HT : Hid (∀ u, Below w2.heap.size w2 u → Calls Try.prog 47 #[.pointer (some ⟨ob, 0, none⟩), .func (.func 56) #[] #[.pointer (some ⟨w.heap.size, 0, none⟩), .pointer (some ⟨w.heap.size + 1, 0, none⟩)]] u fun e w' => ∃ v, e = .returned v ∧ OwnN w' u.heap.size v (thL M.length (inE A.k.toNat N x)) ∧ Below u.heap.size u w') := fun u hu =>
    those_any (HM.out.below (go_on HB2.out hu)) 56 _ _ (enters_of Try.func56 (by kernel_rfl) rfl) (fun y i hy hi => inverses1_any (HM.out.below (go_on (go_on HB2.out hu) hy)) w.heap.size (w.heap.size + 1) x (by rw [below_cellJ (go_on hu hy) (by omega)]; exact HC1.out) (by rw [below_cellJ (go_on hu hy) (by omega)]; exact HC2.out) hx i hi)
  clear h hw2 hz2
  go_enter Try.func27, Try.ntmps27
  go_wp2_with fail
  rw [← HW2.out]
  refine HCK.out.mono ?_
  rintro e w3 ⟨rfl, hw3⟩
  have HB3 : Hid (Below w2.heap.size w2 w3) := by show Below _ _ _; rw [hw3]; exact below_new _ _
  have hc1 : w3.cell? ⟨w.heap.size, 0, none⟩ = some (.pointer (some ⟨ob, 0, none⟩)) := by rw [below_cellJ HB3.out (by rw [HZ2.out]; omega)]; exact HC1.out
  clear hw3
  go_wp2_with fail
  refine (HT.out _ HB3.out).mono ?_
  rintro e w4 ⟨v, rfl, ho, hb⟩
  have HO : Hid (OwnN w4 w.heap.size v (thL M.length (inE A.k.toNat N x))) := own_mono ho (by have := HB3.out.size; have := HZ2.out; omega)
  have HB4 : Hid (Below w.heap.size w w4) := go_on (go_on HB2.out HB3.out) hb
  clear ho hb hc1
  go_wp2_with fail
  go_ret2
  exact ⟨_, rfl, HO.out, HB4.out⟩

/-- Is it regular? -/
def rgE (K n : Nat) (N : List Nat) (i : Nat) : Bool := (List.range n).any fun j => decide (pr K N (pr K N i j) i = i)

theorem rgE_iff {K n : Nat} {N : List Nat} {i : Nat} : rgE K n N i = true ↔ ∃ j, j < n ∧ pr K N (pr K N i j) i = i := by
  simp [rgE]

set_option maxHeartbeats 1000000 in
set_option maxRecDepth 100000 in
theorem iRegular_ok {w : World} {ob : Nat} {A : Aut} {M : List (List Nat)} {N : List Nat} (h : MO w ob A M N) (i : Nat) (hi : i < M.length) :
    Calls Try.prog 25 #[.pointer (some ⟨ob, 0, none⟩), .int .i64 (i : Nat)] w fun e w' => e = .returned (.tuple #[.bool (rgE A.k.toNat M.length N i), .int .i64 0]) ∧ Below w.heap.size w w' := by
  obtain ⟨w1, hw1⟩ : ∃ w1, w1 = w.alloc (.cells #[.int .i64 (i : Int)] 3) := ⟨_, rfl⟩
  have HB1 : Hid (Below w.heap.size w w1) := by show Below _ _ _; rw [hw1]; exact below_new _ _
  have HW1 : Hid (w1 = w.alloc (.cells #[.int .i64 (i : Int)] 3)) := hw1
  have HM : Hid (MO w1 ob A M N) := h.below HB1.out
  have hms := h.mon.most
  have HC : Hid (Calls Try.prog 43 #[.pointer (some ⟨ob, 0, none⟩), .slice (some ⟨w.heap.size, 0, none⟩) 1 1] w1 fun e w' => e = .returned (.int .i64 0) ∧ w' = w1) := by
    show Calls _ _ _ _ _
    have q := icheck_one h (i : Int)
    rw [if_pos (show hasE M.length (i : Int) = true from decide_eq_true ⟨by omega, by omega⟩), ← hw1] at q
    exact q
  clear h hw1
  go_enter Try.func25, Try.ntmps25
  go_wp2_with fail
  rw [← HW1.out]
  refine HC.out.mono ?_
  rintro e w2 ⟨rfl, hq⟩
  subst hq
  go_wp2_with fail
  refine (mlen_any HM.out).mono ?_
  rintro e w3 ⟨rfl, hq⟩
  subst hq
  go_wp2_with fail
  go_loopw [4, 5, 17] (fun _ _ vj wr => ∃ j : Nat, j ≤ M.length ∧ vj = .int .i64 (j : Nat) ∧ (∀ k, k < j → ¬ pr A.k.toNat N (pr A.k.toNat N i k) i = i) ∧ Below w2.heap.size w2 wr) (fun _ _ vj _ => M.length - (Go.Lib.intOf vj).toNat)
  case atStart => exact ⟨0, Nat.zero_le _, rfl, fun k hk => by omega, Below.refl _ _⟩
  case round =>
    obtain ⟨j, hj, rfl, hno, hb⟩ := hrel
    have HB : Hid (Below w2.heap.size w2 wr) := hb
    have HNO : Hid (∀ k, k < j → ¬ pr A.k.toNat N (pr A.k.toNat N i k) i = i) := hno
    clear hb hno
    by_cases hlt : j < M.length
    · have hjI : (j : Int) < (M.length : Int) := by omega
      have HLT : Hid (j < M.length) := hlt
      have HP : Hid (Calls Try.prog 55 #[.pointer (some ⟨ob, 0, none⟩), .slice (some ⟨wr.heap.size, 0, none⟩) 3 3] (wr.alloc (.cells #[.int .i64 (i : Nat), .int .i64 (j : Nat), .int .i64 (i : Nat)] 3)) fun e w' => e = .returned (.int .i64 (pr A.k.toNat N (pr A.k.toNat N i j) i : Nat)) ∧ Below wr.heap.size wr w') := iprod_three (HM.out.below HB.out) i j i hi hlt hi
      obtain ⟨p, hp⟩ : ∃ p, pr A.k.toNat N (pr A.k.toNat N i j) i = p := ⟨_, rfl⟩
      have HPE : Hid (pr A.k.toNat N (pr A.k.toNat N i j) i = p) := hp
      rw [hp] at HP
      clear hp hlt
      go_wp2_with fail
      refine HP.out.mono ?_
      rintro e w4 ⟨rfl, hb⟩
      have HB4 : Hid (Below w2.heap.size w2 w4) := go_on HB.out hb
      clear hb
      by_cases c : p = i
      · have c1 : ((p : Int) == (i : Int)) = true := by rw [beq_iff_eq]; omega
        have HE : Hid (rgE A.k.toNat M.length N i = true) := rgE_iff.2 ⟨j, HLT.out, by rw [HPE.out, c]⟩
        clear c
        go_wp2_with fail
        go_ret2
        exact ⟨by rw [HE.out]; rfl, go_on HB1.out HB4.out⟩
      · have c1 : ((p : Int) == (i : Int)) = false := by rw [beq_eq_false_iff_ne]; omega
        have HPN : Hid (¬ p = i) := c
        clear c
        go_wp2_with fail
        go_roundw
        case rel =>
          refine ⟨j + 1, HLT.out, by go_num, fun k hk => ?_, HB4.out⟩
          by_cases e : k = j
          · rw [e, HPE.out]; exact HPN.out
          · exact HNO.out k (by omega)
        case measure => have := HLT.out; simp [Go.Lib.intOf]; omega
    · have hjI : ¬ (j : Int) < (M.length : Int) := by omega
      have HE : Hid (rgE A.k.toNat M.length N i = false) := by
        show _ = _
        cases hr : rgE A.k.toNat M.length N i with
        | false => rfl
        | true =>
          obtain ⟨k, k1, k2⟩ := rgE_iff.1 hr
          exact absurd k2 (HNO.out k (by omega))
      go_wp2_with fail
      go_ret2
      exact ⟨by rw [HE.out]; rfl, go_on HB1.out HB.out⟩
end Go.Proofs.Ytafcejipoioigaa

namespace Go.Proofs.Ytafcejipoioigaa
open Go Go.RowKit Go.Lib Go.Maps
set_option linter.unusedVariables false
attribute [-instance] List.instBEq instBEqProd

/-- What checkIdempotents answers. -/
def icV (K n : Nat) (N : List Nat) (L : List Int) : Int := if L.all (hasE n) = true then (if L.all (fun x => idE K N x.toNat) = true then 0 else 160) else 11

set_option maxHeartbeats 2000000 in
set_option maxRecDepth 100000 in
theorem icheckI_any {w : World} {ob : Nat} {A : Aut} {M : List (List Nat)} {N : List Nat} (h : MO w ob A M N) (a : Option Addr) (cap : Nat) (L : List Int) (hS : SR w a (zC L)) (hm : L.length ≤ 9223372036854775806) :
    Calls Try.prog 57 #[.pointer (some ⟨ob, 0, none⟩), .slice a L.length cap] w fun e w' => e = .returned (.int .i64 (icV A.k.toNat M.length N L)) ∧ Below w.heap.size w w' := by
  have HM : Hid (MO w ob A M N) := h
  have HS : Hid (SR w a (zC L)) := hS
  have HC0 := icheck_any h a cap L hS hm
  unfold ick at HC0
  by_cases hall : L.all (hasE M.length) = true
  · rw [if_pos hall] at HC0
    have HC : Hid _ := HC0
    have HV : Hid (icV A.k.toNat M.length N L = if L.all (fun x => idE A.k.toNat N x.toNat) = true then 0 else 160) := by show _ = _; unfold icV; rw [if_pos hall]
    have HA : Hid (∀ x ∈ L, hasE M.length x = true) := List.all_eq_true.1 hall
    clear h hS HC0 hall
    go_enter Try.func57, Try.ntmps57
    go_wp2_with fail
    refine Calls.mono HC.out ?_
    rintro e w1 ⟨rfl, rfl⟩
    go_wp2_with fail
    go_loopw [16] (fun vi wr => ∃ i : Nat, i ≤ L.length ∧ vi = .int .i64 (i : Nat) ∧ (∀ j, j < i → idE A.k.toNat N (L.getD j 0).toNat = true) ∧ Below w.heap.size w wr) (fun vi _ => L.length - (Go.RowKit.intOf vi).toNat)
    case atStart => exact ⟨0, Nat.zero_le _, rfl, fun j hj => by omega, Below.refl _ _⟩
    case round =>
      obtain ⟨i, hi, rfl, hj, hb⟩ := hrel
      have HB : Hid (Below w.heap.size w wr) := hb
      have HJ : Hid (∀ j, j < i → idE A.k.toNat N (L.getD j 0).toNat = true) := hj
      clear hj
      by_cases hlt : i < L.length
      · have hiI : (i : Int) < L.length := by omega
        obtain ⟨g, o, rfl, _, hc⟩ := (HS.out.stay hb).int hlt
        obtain ⟨x, hx, hxl⟩ := hasE_of (HA.out (L.getD i 0) (by rw [List.getD_eq_getElem?_getD, List.getElem?_eq_getElem hlt]; exact List.getElem_mem hlt))
        have HX : Hid (L.getD i 0 = (x : Nat)) := hx
        rw [hx] at hc
        have HI : Hid _ := isIdem_any (HM.out.below HB.out) x hxl
        have HLT : Hid (i < L.length) := hlt
        clear hb hx hlt hxl
        cases hid : idE A.k.toNat N x with
        | true =>
          have HN : Hid (∀ j, j < i + 1 → idE A.k.toNat N (L.getD j 0).toNat = true) := fun j hj => by
            by_cases e : j = i
            · subst e; rw [HX.out, Int.toNat_natCast]; exact hid
            · exact HJ.out j (by omega)
          rw [hid] at HI
          clear hid
          go_wp2_with fail
          refine Calls.mono HI.out ?_
          rintro e w1 ⟨rfl, hb1⟩
          have HB1 : Hid (Below w.heap.size w w1) := go_on HB.out hb1
          clear hb1 hc
          go_wp2_with fail
          go_roundw
          case rel => exact ⟨i + 1, HLT.out, by go_num, HN.out, HB1.out⟩
          case measure => have := HLT.out; simp [Go.RowKit.intOf]; omega
        | false =>
          have HVV : Hid (icV A.k.toNat M.length N L = 160) := by
            show _ = _
            rw [HV.out, if_neg]
            intro q
            have := List.all_eq_true.1 q (L.getD i 0) (by rw [List.getD_eq_getElem?_getD, List.getElem?_eq_getElem HLT.out]; exact List.getElem_mem HLT.out)
            rw [HX.out, Int.toNat_natCast, hid] at this
            cases this
          rw [hid] at HI
          clear hid
          go_wp2_with fail
          refine Calls.mono HI.out ?_
          rintro e w1 ⟨rfl, hb1⟩
          have HB1 : Hid (Below w.heap.size w w1) := go_on HB.out hb1
          clear hb1 hc
          go_wp2_with fail
          go_ret
          exact ⟨by rw [HVV.out]; rfl, HB1.out⟩
      · have hiI : ¬ (i : Int) < L.length := by omega
        have HVV : Hid (icV A.k.toNat M.length N L = 0) := by
          show _ = _
          rw [HV.out, if_pos]
          rw [List.all_eq_true]
          intro y hy
          obtain ⟨p, hp⟩ := List.mem_iff_getElem?.1 hy
          have hpl := (List.getElem?_eq_some_iff.1 hp).1
          have := HJ.out p (by omega)
          rw [List.getD_eq_getElem?_getD, hp] at this
          exact this
        clear hb
        go_wp2_with fail
        go_ret
        exact ⟨by rw [HVV.out]; rfl, HB.out⟩
  · rw [if_neg hall] at HC0
    have HC : Hid _ := HC0
    have HV : Hid (icV A.k.toNat M.length N L = 11) := by show _ = _; unfold icV; rw [if_neg hall]
    clear h hS HC0 hall
    go_enter Try.func57, Try.ntmps57
    go_wp2_with fail
    refine Calls.mono HC.out ?_
    rintro e w1 ⟨rfl, rfl⟩
    go_wp2_with fail
    go_ret
    exact ⟨by rw [HV.out]; rfl, Below.refl _ _⟩

/-- What Regular answers. -/
def rgV (K n : Nat) (N : List Nat) (i : Int) : Value := if hasE n i = true then .tuple #[.bool (rgE K n N i.toNat), .int .i64 0] else .tuple #[.bool false, .int .i64 11]

set_option maxHeartbeats 2000000 in
set_option maxRecDepth 100000 in
theorem iRegular_all {w : World} {ob : Nat} {A : Aut} {M : List (List Nat)} {N : List Nat} (h : MO w ob A M N) (i : Int) :
    Calls Try.prog 25 #[.pointer (some ⟨ob, 0, none⟩), .int .i64 i] w fun e w' => e = .returned (rgV A.k.toNat M.length N i) ∧ Below w.heap.size w w' := by
  by_cases hi : hasE M.length i = true
  · have HV : rgV A.k.toNat M.length N i = .tuple #[.bool (rgE A.k.toNat M.length N i.toNat), .int .i64 0] := by unfold rgV; rw [if_pos hi]
    rw [HV]
    obtain ⟨k, rfl, hk⟩ := hasE_of hi
    exact iRegular_ok h k hk
  · have HV : Hid (rgV A.k.toNat M.length N i = .tuple #[.bool false, .int .i64 11]) := by show _ = _; unfold rgV; rw [if_neg hi]
    have HC : Hid (Calls Try.prog 43 #[.pointer (some ⟨ob, 0, none⟩), .slice (some ⟨w.heap.size, 0, none⟩) 1 1] (w.alloc (.cells #[.int .i64 i] 3)) fun e w' => e = .returned (.int .i64 11) ∧ w' = w.alloc (.cells #[.int .i64 i] 3)) := by
      have q := icheck_one h i
      rw [if_neg hi] at q
      exact q
    have HB1 : Hid (Below w.heap.size w (w.alloc (.cells #[.int .i64 i] 3))) := below_new _ _
    clear h hi
    go_enter Try.func25, Try.ntmps25
    go_wp2_with fail
    refine HC.out.mono ?_
    rintro e w2 ⟨rfl, hq⟩
    subst hq
    go_wp2_with fail
    go_ret2
    exact ⟨by rw [HV.out]; rfl, HB1.out⟩

/-- What a call that tells a list answers. -/
def LsX (L : List Nat) (er : Int) (w : World) (e : Ending) (w' : World) : Prop := ∃ v, e = .returned (.tuple #[v, .int .i64 er]) ∧ OwnN w' w.heap.size v L ∧ Below w.heap.size w w'

/-- Inverses' list and error. -/
def ivL (K n : Nat) (N : List Nat) (i : Int) : List Nat := if hasE n i = true then thL n (inE K N i.toNat) else []

def ivX (n : Nat) (i : Int) : Int := if hasE n i = true then 0 else 11

set_option maxHeartbeats 2000000 in
set_option maxRecDepth 100000 in
theorem iInverses_all {w : World} {ob : Nat} {A : Aut} {M : List (List Nat)} {N : List Nat} (h : MO w ob A M N) (i : Int) :
    Calls Try.prog 27 #[.pointer (some ⟨ob, 0, none⟩), .int .i64 i] w (LsX (ivL A.k.toNat M.length N i) (ivX M.length i) w) := by
  by_cases hi : hasE M.length i = true
  · have e1 : ivL A.k.toNat M.length N i = thL M.length (inE A.k.toNat N i.toNat) := by unfold ivL; rw [if_pos hi]
    have e2 : ivX M.length i = 0 := by unfold ivX; rw [if_pos hi]
    rw [e1, e2]
    obtain ⟨k, rfl, hk⟩ := hasE_of hi
    exact iInverses_ok h k hk
  · have e1 : ivL A.k.toNat M.length N i = [] := by unfold ivL; rw [if_neg hi]
    have e2 : ivX M.length i = 11 := by unfold ivX; rw [if_neg hi]
    rw [e1, e2]
    obtain ⟨w2, hw2⟩ : ∃ w2, w2 = (w.alloc (.cells #[.pointer (some ⟨ob, 0, none⟩)] 22)).alloc (.cells #[.int .i64 i] 3) := ⟨_, rfl⟩
    have HB2 : Hid (Below w.heap.size w w2) := by show Below _ _ _; rw [hw2]; exact go_on (below_new _ _) (below_new _ _)
    have HW2 : Hid (w2 = (w.alloc (.cells #[.pointer (some ⟨ob, 0, none⟩)] 22)).alloc (.cells #[.int .i64 i] 3)) := hw2
    have hz2 : w2.heap.size = w.heap.size + 2 := by rw [hw2]; simp
    have HC : Hid (Calls Try.prog 43 #[.pointer (some ⟨ob, 0, none⟩), .slice (some ⟨w.heap.size + 2, 0, none⟩) 1 1] (w2.alloc (.cells #[.int .i64 i] 3)) fun e w' => e = .returned (.int .i64 11) ∧ w' = w2.alloc (.cells #[.int .i64 i] 3)) := by
      have q := icheck_one (h.below HB2.out) i
      rw [if_neg hi, hz2] at q
      exact q
    have HB3 : Hid (Below w.heap.size w (w2.alloc (.cells #[.int .i64 i] 3))) := go_on HB2.out (below_new _ _)
    have c0 : w2.cell? ⟨w.heap.size, 0, none⟩ = some (.pointer (some ⟨ob, 0, none⟩)) := by
      have e : w2.heap[w.heap.size]? = some (.cells #[.pointer (some ⟨ob, 0, none⟩)] 22 (0, 0)) := by rw [hw2, heap_allo (by simp)]; exact heap_last _ _
      exact cell_at e rfl
    have c1 : w2.cell? ⟨w.heap.size + 1, 0, none⟩ = some (.int .i64 i) := by
      have e : w2.heap[w.heap.size + 1]? = some (.cells #[.int .i64 i] 3 (0, 0)) := by
        rw [hw2]
        have := heap_last (w.alloc (.cells #[.pointer (some ⟨ob, 0, none⟩)] 22)) (.cells #[.int .i64 i] 3)
        rwa [World.size_alloc] at this
      exact cell_at e rfl
    clear h hi hw2 hz2 e1 e2
    go_enter Try.func27, Try.ntmps27
    go_wp2_with fail
    rw [← HW2.out]
    refine HC.out.mono ?_
    rintro e w3 ⟨rfl, hq⟩
    subst hq
    go_wp2_with fail
    go_ret2
    exact ⟨_, rfl, World.ownsRow_nil _ _ _ _, HB3.out⟩

/-- What Below answers. -/
def blV (K n : Nat) (N : List Nat) (e f : Int) : Value := if icV K n N [e, f] = 0 then .tuple #[.bool (leE K N e.toNat f.toNat), .int .i64 0] else .tuple #[.bool false, .int .i64 (icV K n N [e, f])]

theorem icV_ok2 {K n : Nat} {N : List Nat} {e f : Int} (h : icV K n N [e, f] = 0) : ∃ a b : Nat, e = a ∧ f = b ∧ a < n ∧ b < n ∧ pr K N a a = a ∧ pr K N b b = b := by
  unfold icV at h
  split at h
  · rename_i h1
    split at h
    · rename_i h2
      simp only [List.all_cons, List.all_nil, Bool.and_true, Bool.and_eq_true] at h1 h2
      obtain ⟨a, rfl, ha⟩ := hasE_of h1.1
      obtain ⟨b, rfl, hb⟩ := hasE_of h1.2
      rw [Int.toNat_natCast, Int.toNat_natCast] at h2
      exact ⟨a, b, rfl, rfl, ha, hb, of_decide_eq_true h2.1, of_decide_eq_true h2.2⟩
    · cases h
  · cases h

theorem icV_ok1 {K n : Nat} {N : List Nat} {e : Int} (h : icV K n N [e] = 0) : ∃ a : Nat, e = a ∧ a < n ∧ pr K N a a = a := by
  unfold icV at h
  split at h
  · rename_i h1
    split at h
    · rename_i h2
      simp only [List.all_cons, List.all_nil, Bool.and_true] at h1 h2
      obtain ⟨a, rfl, ha⟩ := hasE_of h1
      rw [Int.toNat_natCast] at h2
      exact ⟨a, rfl, ha, of_decide_eq_true h2⟩
    · cases h
  · cases h

set_option maxHeartbeats 2000000 in
set_option maxRecDepth 100000 in
theorem iBelow_all {w : World} {ob : Nat} {A : Aut} {M : List (List Nat)} {N : List Nat} (h : MO w ob A M N) (x y : Int) :
    Calls Try.prog 29 #[.pointer (some ⟨ob, 0, none⟩), .int .i64 x, .int .i64 y] w fun e w' => e = .returned (blV A.k.toNat M.length N x y) ∧ Below w.heap.size w w' := by
  by_cases hc : icV A.k.toNat M.length N [x, y] = 0
  · have HV : blV A.k.toNat M.length N x y = .tuple #[.bool (leE A.k.toNat N x.toNat y.toNat), .int .i64 0] := by unfold blV; rw [if_pos hc]
    rw [HV]
    obtain ⟨a, b, rfl, rfl, ha, hb, haa, hbb⟩ := icV_ok2 hc
    exact iBelow_ok h a b ha hb haa hbb
  · obtain ⟨E, hE⟩ : ∃ E, icV A.k.toNat M.length N [x, y] = E := ⟨_, rfl⟩
    have HV : Hid (blV A.k.toNat M.length N x y = .tuple #[.bool false, .int .i64 E]) := by show _ = _; unfold blV; rw [if_neg hc, hE]
    have HC : Hid (Calls Try.prog 57 #[.pointer (some ⟨ob, 0, none⟩), .slice (some ⟨w.heap.size, 0, none⟩) 2 2] (w.alloc (.cells #[.int .i64 x, .int .i64 y] 3)) fun e w' => e = .returned (.int .i64 E) ∧ Below (w.alloc (.cells #[.int .i64 x, .int .i64 y] 3)).heap.size (w.alloc (.cells #[.int .i64 x, .int .i64 y] 3)) w') := by
      have q := icheckI_any (h.below (below_new w (.cells #[.int .i64 x, .int .i64 y] 3))) (some ⟨w.heap.size, 0, none⟩) 2 [x, y] (sr_newZ w [x, y] 3) (by simp)
      rw [hE] at q
      exact q
    rw [hE] at hc
    have hq0 : (E != 0) = true := by rw [bne_iff_ne]; exact hc
    have HB1 : Hid (Below w.heap.size w (w.alloc (.cells #[.int .i64 x, .int .i64 y] 3))) := below_new _ _
    clear h hc hE
    go_enter Try.func29, Try.ntmps29
    go_wp2_with fail
    refine HC.out.mono ?_
    rintro e w2 ⟨rfl, hb⟩
    have HB2 : Hid (Below w.heap.size w w2) := go_on HB1.out hb
    clear hb
    go_wp2_with fail
    go_ret2
    exact ⟨by rw [HV.out]; rfl, HB2.out⟩

/-- Between's list. -/
def bwL (K n : Nat) (N : List Nat) (e : Int) : List Nat := if icV K n N [e] = 0 then thL n (btE K N e.toNat) else []

set_option maxHeartbeats 2000000 in
set_option maxRecDepth 100000 in
theorem iBetween_all {w : World} {ob : Nat} {A : Aut} {M : List (List Nat)} {N : List Nat} (h : MO w ob A M N) (x : Int) :
    Calls Try.prog 31 #[.pointer (some ⟨ob, 0, none⟩), .int .i64 x] w (LsX (bwL A.k.toNat M.length N x) (icV A.k.toNat M.length N [x]) w) := by
  by_cases hc : icV A.k.toNat M.length N [x] = 0
  · have HV : bwL A.k.toNat M.length N x = thL M.length (btE A.k.toNat N x.toNat) := by unfold bwL; rw [if_pos hc]
    rw [HV, hc]
    obtain ⟨a, rfl, ha, haa⟩ := icV_ok1 hc
    exact iBetween_ok h a ha haa
  · have HV : bwL A.k.toNat M.length N x = [] := by unfold bwL; rw [if_neg hc]
    rw [HV]
    obtain ⟨E, hE⟩ : ∃ E, icV A.k.toNat M.length N [x] = E := ⟨_, rfl⟩
    obtain ⟨w2, hw2⟩ : ∃ w2, w2 = (w.alloc (.cells #[.pointer (some ⟨ob, 0, none⟩)] 22)).alloc (.cells #[.int .i64 x] 3) := ⟨_, rfl⟩
    have HB2 : Hid (Below w.heap.size w w2) := by show Below _ _ _; rw [hw2]; exact go_on (below_new _ _) (below_new _ _)
    have HW2 : Hid (w2 = (w.alloc (.cells #[.pointer (some ⟨ob, 0, none⟩)] 22)).alloc (.cells #[.int .i64 x] 3)) := hw2
    have hz2 : w2.heap.size = w.heap.size + 2 := by rw [hw2]; simp
    have HC : Hid (Calls Try.prog 57 #[.pointer (some ⟨ob, 0, none⟩), .slice (some ⟨w.heap.size + 2, 0, none⟩) 1 1] (w2.alloc (.cells #[.int .i64 x] 3)) fun e w' => e = .returned (.int .i64 E) ∧ Below (w2.alloc (.cells #[.int .i64 x] 3)).heap.size (w2.alloc (.cells #[.int .i64 x] 3)) w') := by
      have q := icheckI_any ((h.below HB2.out).below (below_new w2 (.cells #[.int .i64 x] 3))) (some ⟨w2.heap.size, 0, none⟩) 1 [x] (sr_newZ w2 [x] 3) (by simp)
      rw [hE, hz2] at q
      exact q
    have HB3 : Hid (Below w.heap.size w (w2.alloc (.cells #[.int .i64 x] 3))) := go_on HB2.out (below_new _ _)
    have c0 : w2.cell? ⟨w.heap.size, 0, none⟩ = some (.pointer (some ⟨ob, 0, none⟩)) := by
      have e : w2.heap[w.heap.size]? = some (.cells #[.pointer (some ⟨ob, 0, none⟩)] 22 (0, 0)) := by rw [hw2, heap_allo (by simp)]; exact heap_last _ _
      exact cell_at e rfl
    have c1 : w2.cell? ⟨w.heap.size + 1, 0, none⟩ = some (.int .i64 x) := by
      have e : w2.heap[w.heap.size + 1]? = some (.cells #[.int .i64 x] 3 (0, 0)) := by
        rw [hw2]
        have := heap_last (w.alloc (.cells #[.pointer (some ⟨ob, 0, none⟩)] 22)) (.cells #[.int .i64 x] 3)
        rwa [World.size_alloc] at this
      exact cell_at e rfl
    rw [hE] at hc ⊢
    have hq0 : (E != 0) = true := by rw [bne_iff_ne]; exact hc
    clear h hc hw2 hz2 hE HV
    go_enter Try.func31, Try.ntmps31
    go_wp2_with fail
    rw [← HW2.out]
    refine HC.out.mono ?_
    rintro e w3 ⟨rfl, hb⟩
    have HB4 : Hid (Below w.heap.size w w3) := go_on HB3.out hb
    clear hb c0 c1
    go_wp2_with fail
    go_ret2
    exact ⟨_, rfl, World.ownsRow_nil _ _ _ _, HB4.out⟩

end Go.Proofs.Ytafcejipoioigaa

namespace Go.Proofs.Ytafcejipoioigaa
open Go Go.RowKit Go.Lib Go.Maps
set_option linter.unusedVariables false
attribute [-instance] List.instBEq instBEqProd

set_option maxHeartbeats 2000000 in
set_option maxRecDepth 100000 in
theorem rregular_all {w : World} {rb : Nat} {A : Aut} {M : List (List Nat)} {N : List Nat} (h : RF w rb A M N) (i : Int) :
    Calls Try.prog 26 #[.pointer (some ⟨rb, 0, none⟩), .int .i64 i] w fun e w' => e = .returned (rgV A.k.toNat M.length N i) ∧ Below w.heap.size w w' := by
  by_cases h0 : hasE M.length i = true
  · have HH : Hid (∀ y, Below w.heap.size w y → Calls Try.prog 45 #[.pointer (some ⟨rb, 0, none⟩), .int .i64 i] y fun e w' => e = .returned (.bool true) ∧ y = w') := fun y hy => by have := rhas_any (h.below hy) i; rw [h0] at this; exact this
    have HV : Hid (rgV A.k.toNat M.length N i = .tuple #[.bool (rgE A.k.toNat M.length N i.toNat), .int .i64 0]) := by show _ = _; unfold rgV; rw [if_pos h0]
    obtain ⟨k, rfl, hk⟩ := hasE_of h0
    rw [Int.toNat_natCast] at HV
    have HM : Hid (∀ y, Below w.heap.size w y → RF y rb A M N) := fun y hy => h.below hy
    have HMon : Hid (Mon A M N) := h.mon
    have hms := h.mon.most
    have HK : Hid (k < M.length) := hk
    clear h h0 hk
    go_enter Try.func26, Try.ntmps26
    go_wp2_with fail
    refine (HH.out _ (Below.refl _ _)).mono ?_
    rintro e w1 ⟨rfl, rfl⟩
    go_wp2_with fail
    go_loopw [6] (fun vj wr => ∃ j : Nat, j ≤ M.length ∧ vj = .int .i64 (j : Nat) ∧ (∀ q, q < j → ¬ pr A.k.toNat N (pr A.k.toNat N k q) k = k) ∧ Below w.heap.size w wr) (fun vj _ => M.length - (Go.RowKit.intOf vj).toNat)
    case atStart => exact ⟨0, Nat.zero_le _, rfl, fun q hq => by omega, Below.refl _ _⟩
    case round =>
      obtain ⟨j, hj, rfl, hno, hb⟩ := hrel
      have HB : Hid (Below w.heap.size w wr) := hb
      have HNO : Hid (∀ q, q < j → ¬ pr A.k.toNat N (pr A.k.toNat N k q) k = k) := hno
      clear hb hno
      by_cases hlt : j < M.length
      · have hjI : (j : Int) < (M.length : Int) := by omega
        have HLT : Hid (j < M.length) := hlt
        go_wp2_with fail
        refine (rlen_any (HM.out _ HB.out)).mono ?_
        rintro e w1 ⟨rfl, rfl⟩
        go_wp2_with fail
        refine (rtimes_any (HM.out _ HB.out) k j HK.out HLT.out).mono ?_
        rintro e w2 ⟨rfl, hb⟩
        have HB2 : Hid (Below w.heap.size w w2) := go_on HB.out hb
        clear hb
        go_wp2_with fail
        refine (rtimes_any (HM.out _ HB2.out) _ k (HMon.out.pr_lt HK.out HLT.out) HK.out).mono ?_
        rintro e w3 ⟨rfl, hb⟩
        have HB3 : Hid (Below w.heap.size w w3) := go_on HB2.out hb
        obtain ⟨p, hp⟩ : ∃ p, pr A.k.toNat N (pr A.k.toNat N k j) k = p := ⟨_, rfl⟩
        have HPE : Hid (pr A.k.toNat N (pr A.k.toNat N k j) k = p) := hp
        rw [hp]
        clear hb hp hlt
        by_cases c : p = k
        · have c1 : ((p : Int) == (k : Int)) = true := by rw [beq_iff_eq]; omega
          have HE : Hid (rgE A.k.toNat M.length N k = true) := rgE_iff.2 ⟨j, HLT.out, by rw [HPE.out, c]⟩
          clear c
          go_wp2_with fail
          go_ret2
          exact ⟨by rw [HV.out, HE.out]; rfl, HB3.out⟩
        · have c1 : ((p : Int) == (k : Int)) = false := by rw [beq_eq_false_iff_ne]; omega
          have HPN : Hid (¬ p = k) := c
          clear c
          go_wp2_with fail
          go_roundw
          case rel =>
            refine ⟨j + 1, HLT.out, by go_num, fun q hq => ?_, HB3.out⟩
            by_cases e : q = j
            · rw [e, HPE.out]; exact HPN.out
            · exact HNO.out q (by omega)
          case measure => have := HLT.out; simp [Go.RowKit.intOf]; omega
      · have hjI : ¬ (j : Int) < (M.length : Int) := by omega
        have HE : Hid (rgE A.k.toNat M.length N k = false) := by
          show _ = _
          cases hr : rgE A.k.toNat M.length N k with
          | false => rfl
          | true =>
            obtain ⟨q, k1, k2⟩ := rgE_iff.1 hr
            exact absurd k2 (HNO.out q (by omega))
        clear hlt
        go_wp2_with fail
        refine (rlen_any (HM.out _ HB.out)).mono ?_
        rintro e w1 ⟨rfl, rfl⟩
        go_wp2_with fail
        go_ret2
        exact ⟨by rw [HV.out, HE.out]; rfl, HB.out⟩
  · have HH : Hid (∀ y, Below w.heap.size w y → Calls Try.prog 45 #[.pointer (some ⟨rb, 0, none⟩), .int .i64 i] y fun e w' => e = .returned (.bool false) ∧ y = w') := fun y hy => by have := rhas_any (h.below hy) i; rw [Bool.eq_false_iff.2 h0] at this; exact this
    have HV : Hid (rgV A.k.toNat M.length N i = .tuple #[.bool false, .int .i64 11]) := by show _ = _; unfold rgV; rw [if_neg h0]
    clear h h0
    go_enter Try.func26, Try.ntmps26
    go_wp2_with fail
    refine (HH.out _ (Below.refl _ _)).mono ?_
    rintro e w1 ⟨rfl, rfl⟩
    go_wp2_with fail
    go_ret2
    exact ⟨by rw [HV.out]; rfl, Below.refl _ _⟩

set_option maxHeartbeats 4000000 in
set_option maxRecDepth 100000 in
theorem rinverses_all {w : World} {rb : Nat} {A : Aut} {M : List (List Nat)} {N : List Nat} (h : RF w rb A M N) (i : Int) :
    Calls Try.prog 28 #[.pointer (some ⟨rb, 0, none⟩), .int .i64 i] w (LsX (ivL A.k.toNat M.length N i) (ivX M.length i) w) := by
  by_cases h0 : hasE M.length i = true
  · have HH : Hid (∀ y, Below w.heap.size w y → Calls Try.prog 45 #[.pointer (some ⟨rb, 0, none⟩), .int .i64 i] y fun e w' => e = .returned (.bool true) ∧ y = w') := fun y hy => by have := rhas_any (h.below hy) i; rw [h0] at this; exact this
    have e1 : ivL A.k.toNat M.length N i = thL M.length (inE A.k.toNat N i.toNat) := by unfold ivL; rw [if_pos h0]
    have e2 : ivX M.length i = 0 := by unfold ivX; rw [if_pos h0]
    rw [e1, e2]
    obtain ⟨k, rfl, hk⟩ := hasE_of h0
    rw [Int.toNat_natCast]
    clear e1 e2
    have HM : Hid (∀ y, Below w.heap.size w y → RF y rb A M N) := fun y hy => h.below hy
    have HMon : Hid (Mon A M N) := h.mon
    have hn5 := h.mon.most
    have HK : Hid (k < M.length) := hk
    obtain ⟨P, hP⟩ : ∃ P, P = inE A.k.toNat N k := ⟨_, rfl⟩
    have HPD : Hid (P = inE A.k.toNat N k) := hP
    obtain ⟨i0, hi0, hz0, hz1, hz2⟩ := info_parts Try.info_int
    rw [← hP]
    clear h h0 hk hP
    go_enter Try.func28, Try.ntmps28
    go_wp2_with fail
    refine (HH.out _ (Below.refl _ _)).mono ?_
    rintro e w1 ⟨rfl, rfl⟩
    go_wp2_with fail
    go_loopw [6, 7, 8] (fun vo vi _ wr => ∃ (i : Nat) (oa : Option Addr) (oc : Nat), i ≤ M.length ∧ vi = .int .i64 i ∧ vo = .slice oa (thL i P).length oc ∧ OwnN wr w.heap.size (.slice oa (thL i P).length oc) (thL i P) ∧ Below w.heap.size w wr) (fun _ vi _ _ => M.length - (Go.RowKit.intOf vi).toNat)
    case atStart => exact ⟨0, none, 0, Nat.zero_le _, rfl, rfl, World.ownsRow_nil _ _ _ _, Below.refl _ _⟩
    case round =>
      obtain ⟨i, oa, oc, hi, rfl, rfl, ho, hb⟩ := hrel
      have HO : Hid (OwnN wr w.heap.size (.slice oa (thL i P).length oc) (thL i P)) := ho
      have HB : Hid (Below w.heap.size w wr) := hb
      have hll := thL_len i P
      clear hb ho
      by_cases hlt : i < M.length
      · have hiI : (i : Int) < M.length := by omega
        have HLT : Hid (i < M.length) := hlt
        clear hlt
        go_wp2_with fail
        refine (rlen_any (HM.out _ HB.out)).mono ?_
        rintro e w1 ⟨rfl, rfl⟩
        go_wp2_with fail
        refine (rtimes_any (HM.out _ HB.out) k i HK.out HLT.out).mono ?_
        rintro e w2 ⟨rfl, hb⟩
        have HB2 : Hid (Below w.heap.size w w2) := go_on HB.out hb
        have HO2 : Hid (OwnN w2 w.heap.size (.slice oa (thL i P).length oc) (thL i P)) := own_below HO.out hb
        have hs2 := HB2.out.size
        clear hb
        obtain ⟨ij, hij⟩ : ∃ ij, pr A.k.toNat N k i = ij := ⟨_, rfl⟩
        have HIJ : Hid (pr A.k.toNat N k i = ij) := hij
        have hijl : ij < M.length := by rw [← hij]; exact HMon.out.pr_lt HK.out HLT.out
        have HIL : Hid (ij < M.length) := hijl
        rw [hij]
        clear hij hijl
        go_wp2_with fail
        refine (rtimes_any (HM.out _ HB2.out) ij k HIL.out HK.out).mono ?_
        rintro e w3 ⟨rfl, hb⟩
        have HB3 : Hid (Below w.heap.size w w3) := go_on HB2.out hb
        have HO3 : Hid (OwnN w3 w.heap.size (.slice oa (thL i P).length oc) (thL i P)) := own_below HO2.out hb
        have hs3 := HB3.out.size
        clear hb
        obtain ⟨p, hp⟩ : ∃ p, pr A.k.toNat N ij k = p := ⟨_, rfl⟩
        have HPE : Hid (pr A.k.toNat N ij k = p) := hp
        rw [hp]
        clear hp
        by_cases c1 : p = k
        · have c1a : ((p : Int) == (k : Int)) = true := by rw [beq_iff_eq]; omega
          have HC1 : Hid (p = k) := c1
          clear c1
          go_wp2_with fail
          refine (rtimes_any (HM.out _ HB3.out) i ij HLT.out HIL.out).mono ?_
          rintro e w4 ⟨rfl, hb⟩
          have HB4 : Hid (Below w.heap.size w w4) := go_on HB3.out hb
          have HO4 : Hid (OwnN w4 w.heap.size (.slice oa (thL i P).length oc) (thL i P)) := own_below HO3.out hb
          have hs4 := HB4.out.size
          clear hb
          obtain ⟨q, hq⟩ : ∃ q, pr A.k.toNat N i ij = q := ⟨_, rfl⟩
          have HQE : Hid (pr A.k.toNat N (pr A.k.toNat N i k) i = q) := by show _ = _; rw [HMon.out.assoc HLT.out HK.out HLT.out, HIJ.out, hq]
          rw [hq]
          clear hq
          by_cases c2 : q = i
          · have c2a : ((q : Int) == (i : Int)) = true := by rw [beq_iff_eq]; omega
            have HPT : Hid (P i = true) := by show _ = _; rw [HPD.out]; exact decide_eq_true ⟨by rw [HIJ.out, HPE.out, HC1.out], by rw [HQE.out, c2]⟩
            have HT : Hid (thL (i + 1) P = thL i P ++ [i]) := by show _ = _; rw [thL_succ, HPT.out]; rfl
            clear c2
            go_wp2_with (first
              | (at_builtin; refine wpList_append_own_at _ rfl _ _ 23 rfl w.heap.size 3 i0 (.int .i64 0) 1 8 Try.underlying23 hi0 hz0 hz1 hz2 rfl (by decide) _ _ _ rfl (World.ownsRow.alloc HO4.out _) ⟨w4.heap.size, 0, none⟩ 1 1 [.int .i64 (i : Int)] rfl rfl (cell_one_new _ _ _) (by intro u hu; simp at hu; subst hu; rfl) (by unfold maxLen; omega) (by omega) (by simp; omega) ?_; intro v' w9 hown' hgrow _ hloc))
            have HB9 : Hid (Below w.heap.size w w9) := (go_on HB4.out (below_new _ _)).grown hgrow (by simp; omega) (fun k hk => (own_blk HO4.out hk).1)
            obtain ⟨oa4, oc4, hsh⟩ := own_shape hown'
            have HO4 : Hid (OwnN w9 w.heap.size v' (thL (i + 1) P)) := by
              show OwnN _ _ _ _
              rw [HT.out]
              unfold OwnN
              rw [nC_append, List.length_append]
              exact hown'
            have HSH : Hid (v' = .slice oa4 (thL (i + 1) P).length oc4) := by show _ = _; rw [HT.out, List.length_append]; exact hsh
            clear hown' hgrow hloc hsh
            go_roundw
            case rel => exact ⟨i + 1, oa4, oc4, HLT.out, by go_num, HSH.out, by have q := HO4.out; rw [HSH.out] at q; exact q, HB9.out⟩
            case measure => have := HLT.out; simp [Go.RowKit.intOf]; omega
          · have c2a : ((q : Int) == (i : Int)) = false := by rw [beq_eq_false_iff_ne]; omega
            have HPT : Hid (P i = false) := by show _ = _; rw [HPD.out]; exact decide_eq_false (fun z => c2 (by rw [← HQE.out]; exact z.2))
            have HT : Hid (thL (i + 1) P = thL i P) := by show _ = _; rw [thL_succ, HPT.out]; rfl
            clear c2
            go_wp2_with fail
            go_roundw
            case rel => exact ⟨i + 1, oa, oc, HLT.out, by go_num, by rw [HT.out], by rw [HT.out]; exact HO4.out, HB4.out⟩
            case measure => have := HLT.out; simp [Go.RowKit.intOf]; omega
        · have c1a : ((p : Int) == (k : Int)) = false := by rw [beq_eq_false_iff_ne]; omega
          have HPT : Hid (P i = false) := by show _ = _; rw [HPD.out]; exact decide_eq_false (fun z => c1 (by rw [← HPE.out, ← HIJ.out]; exact z.1))
          have HT : Hid (thL (i + 1) P = thL i P) := by show _ = _; rw [thL_succ, HPT.out]; rfl
          clear c1
          go_wp2_with fail
          go_roundw
          case rel => exact ⟨i + 1, oa, oc, HLT.out, by go_num, by rw [HT.out], by rw [HT.out]; exact HO3.out, HB3.out⟩
          case measure => have := HLT.out; simp [Go.RowKit.intOf]; omega
      · have hiI : ¬ (i : Int) < M.length := by omega
        have e : i = M.length := by omega
        have HE : Hid (i = M.length) := e
        clear e
        go_wp2_with fail
        refine (rlen_any (HM.out _ HB.out)).mono ?_
        rintro e w1 ⟨rfl, rfl⟩
        go_wp2_with fail
        go_ret2
        exact ⟨_, rfl, by rw [← HE.out]; exact HO.out, HB.out⟩
  · have HH : Hid (∀ y, Below w.heap.size w y → Calls Try.prog 45 #[.pointer (some ⟨rb, 0, none⟩), .int .i64 i] y fun e w' => e = .returned (.bool false) ∧ y = w') := fun y hy => by have := rhas_any (h.below hy) i; rw [Bool.eq_false_iff.2 h0] at this; exact this
    have e1 : ivL A.k.toNat M.length N i = [] := by unfold ivL; rw [if_neg h0]
    have e2 : ivX M.length i = 11 := by unfold ivX; rw [if_neg h0]
    rw [e1, e2]
    clear h h0 e1 e2
    go_enter Try.func28, Try.ntmps28
    go_wp2_with fail
    refine (HH.out _ (Below.refl _ _)).mono ?_
    rintro e w1 ⟨rfl, rfl⟩
    go_wp2_with fail
    go_ret2
    exact ⟨_, rfl, World.ownsRow_nil _ _ _ _, Below.refl _ _⟩

set_option maxHeartbeats 4000000 in
set_option maxRecDepth 100000 in
theorem rbetween_all {w : World} {rb : Nat} {A : Aut} {M : List (List Nat)} {N : List Nat} (h : RF w rb A M N) (x : Int) :
    Calls Try.prog 32 #[.pointer (some ⟨rb, 0, none⟩), .int .i64 x] w (LsX (bwL A.k.toNat M.length N x) (icV A.k.toNat M.length N [x]) w) := by
  by_cases h0 : hasE M.length x = true
  · have HH : Hid (∀ y, Below w.heap.size w y → Calls Try.prog 45 #[.pointer (some ⟨rb, 0, none⟩), .int .i64 x] y fun e w' => e = .returned (.bool true) ∧ y = w') := fun y hy => by have := rhas_any (h.below hy) x; rw [h0] at this; exact this
    obtain ⟨k, rfl, hk⟩ := hasE_of h0
    by_cases ik : pr A.k.toNat N k k = k
    · have HIS : Hid (∀ y, Below w.heap.size w y → Calls Try.prog 46 #[.pointer (some ⟨rb, 0, none⟩), .int .i64 (k : Nat)] y fun e w' => e = .returned (.bool true) ∧ Below y.heap.size y w') := fun y hy => by have := ris_any (h.below hy) k hk; rw [show idE A.k.toNat N k = true from decide_eq_true ik] at this; exact this
      have e0 : icV A.k.toNat M.length N [(k : Int)] = 0 := by
        unfold icV
        rw [if_pos (by simpa using h0), if_pos (by simp [idE, ik])]
      have e1 : bwL A.k.toNat M.length N (k : Int) = thL M.length (btE A.k.toNat N k) := by unfold bwL; rw [if_pos e0, Int.toNat_natCast]
      rw [e1, e0]
      clear e0 e1 ik
      have HM : Hid (∀ y, Below w.heap.size w y → RF y rb A M N) := fun y hy => h.below hy
      have HMon : Hid (Mon A M N) := h.mon
      have hn5 := h.mon.most
      have HK : Hid (k < M.length) := hk
      obtain ⟨P, hP⟩ : ∃ P, P = btE A.k.toNat N k := ⟨_, rfl⟩
      have HPD : Hid (P = btE A.k.toNat N k) := hP
      obtain ⟨i0, hi0, hz0, hz1, hz2⟩ := info_parts Try.info_int
      rw [← hP]
      clear h h0 hk hP
      go_enter Try.func32, Try.ntmps32
      go_wp2_with fail
      refine (HH.out _ (Below.refl _ _)).mono ?_
      rintro e w1 ⟨rfl, rfl⟩
      go_wp2_with fail
      refine (HIS.out _ (Below.refl _ _)).mono ?_
      rintro e w2 ⟨rfl, hb⟩
      have HBS : Hid (Below w.heap.size w w2) := hb
      clear hb
      go_wp2_with fail
      go_loopw [6, 7] (fun vo vi wr => ∃ (i : Nat) (oa : Option Addr) (oc : Nat), i ≤ M.length ∧ vi = .int .i64 i ∧ vo = .slice oa (thL i P).length oc ∧ OwnN wr w.heap.size (.slice oa (thL i P).length oc) (thL i P) ∧ Below w.heap.size w wr) (fun _ vi _ => M.length - (Go.RowKit.intOf vi).toNat)
      case atStart => exact ⟨0, none, 0, Nat.zero_le _, rfl, rfl, World.ownsRow_nil _ _ _ _, HBS.out⟩
      case round =>
        obtain ⟨i, oa, oc, hi, rfl, rfl, ho, hb⟩ := hrel
        have HO : Hid (OwnN wr w.heap.size (.slice oa (thL i P).length oc) (thL i P)) := ho
        have HB : Hid (Below w.heap.size w wr) := hb
        have hll := thL_len i P
        clear hb ho
        by_cases hlt : i < M.length
        · have hiI : (i : Int) < M.length := by omega
          have HLT : Hid (i < M.length) := hlt
          clear hlt
          go_wp2_with fail
          refine (rlen_any (HM.out _ HB.out)).mono ?_
          rintro e w1 ⟨rfl, rfl⟩
          go_wp2_with fail
          refine (rtimes_any (HM.out _ HB.out) k i HK.out HLT.out).mono ?_
          rintro e w3 ⟨rfl, hb⟩
          have HB3 : Hid (Below w.heap.size w w3) := go_on HB.out hb
          have HO3 : Hid (OwnN w3 w.heap.size (.slice oa (thL i P).length oc) (thL i P)) := own_below HO.out hb
          have hs3 := HB3.out.size
          clear hb
          obtain ⟨ij, hij⟩ : ∃ ij, pr A.k.toNat N k i = ij := ⟨_, rfl⟩
          have HIJ : Hid (pr A.k.toNat N k i = ij) := hij
          have hijl : ij < M.length := by rw [← hij]; exact HMon.out.pr_lt HK.out HLT.out
          have HIL : Hid (ij < M.length) := hijl
          rw [hij]
          clear hij hijl
          go_wp2_with fail
          refine (rtimes_any (HM.out _ HB3.out) ij k HIL.out HK.out).mono ?_
          rintro e w4 ⟨rfl, hb⟩
          have HB4 : Hid (Below w.heap.size w w4) := go_on HB3.out hb
          have HO4 : Hid (OwnN w4 w.heap.size (.slice oa (thL i P).length oc) (thL i P)) := own_below HO3.out hb
          have hs4 := HB4.out.size
          clear hb
          obtain ⟨p, hp⟩ : ∃ p, pr A.k.toNat N ij k = p := ⟨_, rfl⟩
          have HPE : Hid (pr A.k.toNat N ij k = p) := hp
          rw [hp]
          clear hp
          by_cases c1 : p = i
          · have c1a : ((p : Int) == (i : Int)) = true := by rw [beq_iff_eq]; omega
            have HPT : Hid (P i = true) := by show _ = _; rw [HPD.out]; exact decide_eq_true (by rw [HIJ.out, HPE.out, c1])
            have HT : Hid (thL (i + 1) P = thL i P ++ [i]) := by show _ = _; rw [thL_succ, HPT.out]; rfl
            clear c1
            go_wp2_with (first
              | (at_builtin; refine wpList_append_own_at _ rfl _ _ 23 rfl w.heap.size 3 i0 (.int .i64 0) 1 8 Try.underlying23 hi0 hz0 hz1 hz2 rfl (by decide) _ _ _ rfl (World.ownsRow.alloc HO4.out _) ⟨w4.heap.size, 0, none⟩ 1 1 [.int .i64 (i : Int)] rfl rfl (cell_one_new _ _ _) (by intro u hu; simp at hu; subst hu; rfl) (by unfold maxLen; omega) (by omega) (by simp; omega) ?_; intro v' w9 hown' hgrow _ hloc))
            have HB9 : Hid (Below w.heap.size w w9) := (go_on HB4.out (below_new _ _)).grown hgrow (by simp; omega) (fun k hk => (own_blk HO4.out hk).1)
            obtain ⟨oa4, oc4, hsh⟩ := own_shape hown'
            have HO4 : Hid (OwnN w9 w.heap.size v' (thL (i + 1) P)) := by
              show OwnN _ _ _ _
              rw [HT.out]
              unfold OwnN
              rw [nC_append, List.length_append]
              exact hown'
            have HSH : Hid (v' = .slice oa4 (thL (i + 1) P).length oc4) := by show _ = _; rw [HT.out, List.length_append]; exact hsh
            clear hown' hgrow hloc hsh
            go_roundw
            case rel => exact ⟨i + 1, oa4, oc4, HLT.out, by go_num, HSH.out, by have q := HO4.out; rw [HSH.out] at q; exact q, HB9.out⟩
            case measure => have := HLT.out; simp [Go.RowKit.intOf]; omega
          · have c1a : ((p : Int) == (i : Int)) = false := by rw [beq_eq_false_iff_ne]; omega
            have HPT : Hid (P i = false) := by show _ = _; rw [HPD.out]; exact decide_eq_false (fun z => c1 (by rw [← HPE.out, ← HIJ.out]; exact z))
            have HT : Hid (thL (i + 1) P = thL i P) := by show _ = _; rw [thL_succ, HPT.out]; rfl
            clear c1
            go_wp2_with fail
            go_roundw
            case rel => exact ⟨i + 1, oa, oc, HLT.out, by go_num, by rw [HT.out], by rw [HT.out]; exact HO4.out, HB4.out⟩
            case measure => have := HLT.out; simp [Go.RowKit.intOf]; omega
        · have hiI : ¬ (i : Int) < M.length := by omega
          have e : i = M.length := by omega
          have HE : Hid (i = M.length) := e
          clear e
          go_wp2_with fail
          refine (rlen_any (HM.out _ HB.out)).mono ?_
          rintro e w1 ⟨rfl, rfl⟩
          go_wp2_with fail
          go_ret2
          exact ⟨_, rfl, by rw [← HE.out]; exact HO.out, HB.out⟩
    · have HIS : Hid (∀ y, Below w.heap.size w y → Calls Try.prog 46 #[.pointer (some ⟨rb, 0, none⟩), .int .i64 (k : Nat)] y fun e w' => e = .returned (.bool false) ∧ Below y.heap.size y w') := fun y hy => by have := ris_any (h.below hy) k hk; rw [show idE A.k.toNat N k = false from decide_eq_false ik] at this; exact this
      have e0 : icV A.k.toNat M.length N [(k : Int)] = 160 := by
        unfold icV
        rw [if_pos (by simpa using h0), if_neg (by simp [idE, ik])]
      have e1 : bwL A.k.toNat M.length N (k : Int) = [] := by unfold bwL; rw [if_neg (by rw [e0]; decide)]
      rw [e1, e0]
      clear h h0 e0 e1 ik hk
      go_enter Try.func32, Try.ntmps32
      go_wp2_with fail
      refine (HH.out _ (Below.refl _ _)).mono ?_
      rintro e w1 ⟨rfl, rfl⟩
      go_wp2_with fail
      refine (HIS.out _ (Below.refl _ _)).mono ?_
      rintro e w2 ⟨rfl, hb⟩
      go_wp2_with fail
      go_ret2
      exact ⟨_, rfl, World.ownsRow_nil _ _ _ _, hb⟩
  · have HH : Hid (∀ y, Below w.heap.size w y → Calls Try.prog 45 #[.pointer (some ⟨rb, 0, none⟩), .int .i64 x] y fun e w' => e = .returned (.bool false) ∧ y = w') := fun y hy => by have := rhas_any (h.below hy) x; rw [Bool.eq_false_iff.2 h0] at this; exact this
    have e0 : icV A.k.toNat M.length N [x] = 11 := by
      unfold icV
      rw [if_neg (by simpa using h0)]
    have e1 : bwL A.k.toNat M.length N x = [] := by unfold bwL; rw [if_neg (by rw [e0]; decide)]
    rw [e1, e0]
    clear h h0 e0 e1
    go_enter Try.func32, Try.ntmps32
    go_wp2_with fail
    refine (HH.out _ (Below.refl _ _)).mono ?_
    rintro e w1 ⟨rfl, rfl⟩
    go_wp2_with fail
    go_ret2
    exact ⟨_, rfl, World.ownsRow_nil _ _ _ _, Below.refl _ _⟩

set_option maxHeartbeats 4000000 in
set_option maxRecDepth 100000 in
theorem rbelow_all {w : World} {rb : Nat} {A : Aut} {M : List (List Nat)} {N : List Nat} (h : RF w rb A M N) (x y : Int) :
    Calls Try.prog 30 #[.pointer (some ⟨rb, 0, none⟩), .int .i64 x, .int .i64 y] w fun e w' => e = .returned (blV A.k.toNat M.length N x y) ∧ Below w.heap.size w w' := by
  by_cases hx : hasE M.length x = true
  · have HX : Hid (∀ u, Below w.heap.size w u → Calls Try.prog 45 #[.pointer (some ⟨rb, 0, none⟩), .int .i64 x] u fun e w' => e = .returned (.bool true) ∧ u = w') := fun u hu => by have := rhas_any (h.below hu) x; rw [hx] at this; exact this
    by_cases hy : hasE M.length y = true
    · have HY : Hid (∀ u, Below w.heap.size w u → Calls Try.prog 45 #[.pointer (some ⟨rb, 0, none⟩), .int .i64 y] u fun e w' => e = .returned (.bool true) ∧ u = w') := fun u hu => by have := rhas_any (h.below hu) y; rw [hy] at this; exact this
      obtain ⟨a, rfl, ha⟩ := hasE_of hx
      obtain ⟨b, rfl, hb⟩ := hasE_of hy
      have eh : [(a : Int), (b : Int)].all (hasE M.length) = true := by simp [hx, hy]
      by_cases ia : pr A.k.toNat N a a = a
      · have HISa : Hid (∀ y, Below w.heap.size w y → Calls Try.prog 46 #[.pointer (some ⟨rb, 0, none⟩), .int .i64 (a : Nat)] y fun e w' => e = .returned (.bool true) ∧ Below y.heap.size y w') := fun y hy => by have := ris_any (h.below hy) a ha; rw [show idE A.k.toNat N a = true from decide_eq_true ia] at this; exact this
        by_cases ib : pr A.k.toNat N b b = b
        · have HISb : Hid (∀ y, Below w.heap.size w y → Calls Try.prog 46 #[.pointer (some ⟨rb, 0, none⟩), .int .i64 (b : Nat)] y fun e w' => e = .returned (.bool true) ∧ Below y.heap.size y w') := fun y hy => by have := ris_any (h.below hy) b hb; rw [show idE A.k.toNat N b = true from decide_eq_true ib] at this; exact this
          have HV : Hid (blV A.k.toNat M.length N (a : Int) (b : Int) = .tuple #[.bool (leE A.k.toNat N a b), .int .i64 0]) := by
            show _ = _
            have e0 : icV A.k.toNat M.length N [(a : Int), (b : Int)] = 0 := by
              unfold icV
              rw [if_pos eh, if_pos (by simp [idE, ia, ib])]
            unfold blV
            rw [if_pos e0, Int.toNat_natCast, Int.toNat_natCast]
          have HP : Hid (∀ y, Below w.heap.size w y → Calls Try.prog 52 #[.pointer (some ⟨rb, 0, none⟩), .int .i64 (a : Nat), .int .i64 (b : Nat)] y fun e w' => e = .returned (.int .i64 (pr A.k.toNat N a b : Nat)) ∧ Below y.heap.size y w') := fun y hy => rtimes_any (h.below hy) a b ha hb
          have HQ : Hid (∀ y, Below w.heap.size w y → Calls Try.prog 52 #[.pointer (some ⟨rb, 0, none⟩), .int .i64 (b : Nat), .int .i64 (a : Nat)] y fun e w' => e = .returned (.int .i64 (pr A.k.toNat N b a : Nat)) ∧ Below y.heap.size y w') := fun y hy => rtimes_any (h.below hy) b a hb ha
          obtain ⟨p, hp⟩ : ∃ p, pr A.k.toNat N a b = p := ⟨_, rfl⟩
          obtain ⟨q, hq⟩ : ∃ q, pr A.k.toNat N b a = q := ⟨_, rfl⟩
          have HE : Hid (leE A.k.toNat N a b = decide (p = a ∧ q = a)) := by show _ = _; unfold leE; rw [hp, hq]
          rw [hp] at HP
          rw [hq] at HQ
          clear h hx hy ia ib eh hp hq ha hb
          go_enter Try.func30, Try.ntmps30
          go_wp2_with fail
          refine (HX.out _ (Below.refl _ _)).mono ?_
          rintro e w1 ⟨rfl, rfl⟩
          go_wp2_with fail
          refine (HY.out _ (Below.refl _ _)).mono ?_
          rintro e w1 ⟨rfl, rfl⟩
          go_wp2_with fail
          refine (HISa.out _ (Below.refl _ _)).mono ?_
          rintro e w2 ⟨rfl, hb⟩
          have HB2 : Hid (Below w.heap.size w w2) := hb
          clear hb
          go_wp2_with fail
          refine (HISb.out _ HB2.out).mono ?_
          rintro e w3 ⟨rfl, hb⟩
          have HB3 : Hid (Below w.heap.size w w3) := go_on HB2.out hb
          clear hb
          go_wp2_with fail
          refine (HP.out _ HB3.out).mono ?_
          rintro e w4 ⟨rfl, hb⟩
          have HB4 : Hid (Below w.heap.size w w4) := go_on HB3.out hb
          clear hb
          by_cases c1 : p = a
          · have c1a : ((p : Int) == (a : Int)) = true := by rw [beq_iff_eq]; omega
            have HE1 : Hid (leE A.k.toNat N a b = decide (q = a)) := by show _ = _; rw [HE.out]; simp [c1]
            clear c1
            go_wp2_with fail
            refine (HQ.out _ HB4.out).mono ?_
            rintro e w5 ⟨rfl, hb⟩
            have HB5 : Hid (Below w.heap.size w w5) := go_on HB4.out hb
            clear hb
            by_cases c2 : q = a
            · have c2a : ((q : Int) == (a : Int)) = true := by rw [beq_iff_eq]; omega
              have HE2 : Hid (leE A.k.toNat N a b = true) := by show _ = _; rw [HE1.out]; exact decide_eq_true c2
              clear c2
              go_wp2_with fail
              go_ret2
              exact ⟨by rw [HV.out, HE2.out]; rfl, HB5.out⟩
            · have c2a : ((q : Int) == (a : Int)) = false := by rw [beq_eq_false_iff_ne]; omega
              have HE2 : Hid (leE A.k.toNat N a b = false) := by show _ = _; rw [HE1.out]; exact decide_eq_false c2
              clear c2
              go_wp2_with fail
              go_ret2
              exact ⟨by rw [HV.out, HE2.out]; rfl, HB5.out⟩
          · have c1a : ((p : Int) == (a : Int)) = false := by rw [beq_eq_false_iff_ne]; omega
            have HE1 : Hid (leE A.k.toNat N a b = false) := by show _ = _; rw [HE.out]; exact decide_eq_false (fun q => c1 q.1)
            clear c1
            go_wp2_with fail
            go_ret2
            exact ⟨by rw [HV.out, HE1.out]; rfl, HB4.out⟩
        · have HISb : Hid (∀ y, Below w.heap.size w y → Calls Try.prog 46 #[.pointer (some ⟨rb, 0, none⟩), .int .i64 (b : Nat)] y fun e w' => e = .returned (.bool false) ∧ Below y.heap.size y w') := fun y hy => by have := ris_any (h.below hy) b hb; rw [show idE A.k.toNat N b = false from decide_eq_false ib] at this; exact this
          have HV : Hid (blV A.k.toNat M.length N (a : Int) (b : Int) = .tuple #[.bool false, .int .i64 160]) := by
            show _ = _
            have e0 : icV A.k.toNat M.length N [(a : Int), (b : Int)] = 160 := by
              unfold icV
              rw [if_pos eh, if_neg (by simp [idE, ia, ib])]
            unfold blV
            rw [e0, if_neg (by decide)]
          clear h hx hy ia ib eh ha hb
          go_enter Try.func30, Try.ntmps30
          go_wp2_with fail
          refine (HX.out _ (Below.refl _ _)).mono ?_
          rintro e w1 ⟨rfl, rfl⟩
          go_wp2_with fail
          refine (HY.out _ (Below.refl _ _)).mono ?_
          rintro e w1 ⟨rfl, rfl⟩
          go_wp2_with fail
          refine (HISa.out _ (Below.refl _ _)).mono ?_
          rintro e w2 ⟨rfl, hb⟩
          have HB2 : Hid (Below w.heap.size w w2) := hb
          clear hb
          go_wp2_with fail
          refine (HISb.out _ HB2.out).mono ?_
          rintro e w3 ⟨rfl, hb⟩
          have HB3 : Hid (Below w.heap.size w w3) := go_on HB2.out hb
          clear hb
          go_wp2_with fail
          go_ret2
          exact ⟨by rw [HV.out]; rfl, HB3.out⟩
      · have HISa : Hid (∀ y, Below w.heap.size w y → Calls Try.prog 46 #[.pointer (some ⟨rb, 0, none⟩), .int .i64 (a : Nat)] y fun e w' => e = .returned (.bool false) ∧ Below y.heap.size y w') := fun y hy => by have := ris_any (h.below hy) a ha; rw [show idE A.k.toNat N a = false from decide_eq_false ia] at this; exact this
        have HV : Hid (blV A.k.toNat M.length N (a : Int) (b : Int) = .tuple #[.bool false, .int .i64 160]) := by
          show _ = _
          have e0 : icV A.k.toNat M.length N [(a : Int), (b : Int)] = 160 := by
            unfold icV
            rw [if_pos eh, if_neg (by simp [idE, ia])]
          unfold blV
          rw [e0, if_neg (by decide)]
        clear h hx hy ia eh ha hb
        go_enter Try.func30, Try.ntmps30
        go_wp2_with fail
        refine (HX.out _ (Below.refl _ _)).mono ?_
        rintro e w1 ⟨rfl, rfl⟩
        go_wp2_with fail
        refine (HY.out _ (Below.refl _ _)).mono ?_
        rintro e w1 ⟨rfl, rfl⟩
        go_wp2_with fail
        refine (HISa.out _ (Below.refl _ _)).mono ?_
        rintro e w2 ⟨rfl, hb⟩
        have HB2 : Hid (Below w.heap.size w w2) := hb
        clear hb
        go_wp2_with fail
        go_ret2
        exact ⟨by rw [HV.out]; rfl, HB2.out⟩
    · have HY : Hid (∀ u, Below w.heap.size w u → Calls Try.prog 45 #[.pointer (some ⟨rb, 0, none⟩), .int .i64 y] u fun e w' => e = .returned (.bool false) ∧ u = w') := fun u hu => by have := rhas_any (h.below hu) y; rw [Bool.eq_false_iff.2 hy] at this; exact this
      have HV : Hid (blV A.k.toNat M.length N x y = .tuple #[.bool false, .int .i64 11]) := by
        show _ = _
        have e0 : icV A.k.toNat M.length N [x, y] = 11 := by
          unfold icV
          rw [if_neg (by simp [hx, hy])]
        unfold blV
        rw [e0, if_neg (by decide)]
      clear h hx hy
      go_enter Try.func30, Try.ntmps30
      go_wp2_with fail
      refine (HX.out _ (Below.refl _ _)).mono ?_
      rintro e w1 ⟨rfl, rfl⟩
      go_wp2_with fail
      refine (HY.out _ (Below.refl _ _)).mono ?_
      rintro e w1 ⟨rfl, rfl⟩
      go_wp2_with fail
      go_ret2
      exact ⟨by rw [HV.out]; rfl, Below.refl _ _⟩
  · have HX : Hid (∀ u, Below w.heap.size w u → Calls Try.prog 45 #[.pointer (some ⟨rb, 0, none⟩), .int .i64 x] u fun e w' => e = .returned (.bool false) ∧ u = w') := fun u hu => by have := rhas_any (h.below hu) x; rw [Bool.eq_false_iff.2 hx] at this; exact this
    have HV : Hid (blV A.k.toNat M.length N x y = .tuple #[.bool false, .int .i64 11]) := by
      show _ = _
      have e0 : icV A.k.toNat M.length N [x, y] = 11 := by
        unfold icV
        rw [if_neg (by simp [hx])]
      unfold blV
      rw [e0, if_neg (by decide)]
    clear h hx
    go_enter Try.func30, Try.ntmps30
    go_wp2_with fail
    refine (HX.out _ (Below.refl _ _)).mono ?_
    rintro e w1 ⟨rfl, rfl⟩
    go_wp2_with fail
    go_ret2
    exact ⟨by rw [HV.out]; rfl, Below.refl _ _⟩

end Go.Proofs.Ytafcejipoioigaa

namespace Go.Proofs.Ytafcejipoioigaa
open Go Go.RowKit Go.Lib Go.Maps
set_option linter.unusedVariables false
attribute [-instance] List.instBEq instBEqProd

theorem pA_list : thL 6 (idE 2 pN) = [0, 3, 4, 5] := by decide +kernel

theorem pA_om {x : Nat} (h : OmQ 2 pN 1 x) : x = 3 := by
  have hm : Mon pA pM pN := mon_of pA_good (by decide) pA_el
  have h3 : OmQ pA.k.toNat pN 1 3 := ⟨2, by decide, by decide +kernel, by decide +kernel⟩
  exact hm.om_uniq (by decide) h h3

set_option maxHeartbeats 2000000 in
set_option maxRecDepth 100000 in
theorem live16_any (w : World) : Calls Try.prog 10 #[] w fun e w' => e = .returned (.bool true) ∧ Below w.heap.size w w' := by
  go_enter Try.func10, Try.ntmps10
  go_wp2_with fail
  refine (plain_any w).mono ?_
  rintro e w1 ⟨v, rfl, hAR, hB1⟩
  have HB1 : Hid (Below w.heap.size w w1) := hB1
  have HAR : Hid (AR w1 v pA) := hAR
  clear hB1 hAR
  go_wp2_with fail
  refine (build_any v pA w1 HAR.out pA_good (by decide)).mono ?_
  rintro e w2 (⟨hno, _⟩ | ⟨ob, M, N, rfl, hE, hMO, hB2⟩)
  · rw [pA_el] at hno
    cases hno
  rw [pA_el] at hE
  simp only [Option.some.injEq, Prod.mk.injEq] at hE
  obtain ⟨rfl, rfl⟩ := hE
  have HM : Hid (MO w2 ob pA pM pN) := hMO
  have HB2 : Hid (Below w.heap.size w w2) := go_on HB1.out hB2
  clear hMO hB2
  go_wp2_with fail
  refine (iList_any HM.out).mono ?_
  rintro e w3 ⟨l, rfl, hl, hB3⟩
  have el : thL pM.length (idE pA.k.toNat pN) = [0, 3, 4, 5] := pA_list
  rw [el] at hl
  obtain ⟨la, lc, rfl⟩ := own_shape hl
  have HL : Hid (SR w3 la (zC [0, 3, 4, 5])) := by
    show SR _ _ _
    have := own_sr hl
    rw [nC_zC] at this
    exact this
  have HM3 : Hid (MO w3 ob pA pM pN) := HM.out.below hB3
  have HB3 : Hid (Below w.heap.size w w3) := go_on HB2.out hB3
  clear hB3 hl el
  go_wp2_with fail
  refine (omega_any HM3.out 1 (by decide)).mono ?_
  rintro e w4 ⟨⟨x, rfl, hx⟩, hB4⟩
  obtain rfl := pA_om hx
  have HB4 : Hid (Below w.heap.size w w4) := go_on HB3.out hB4
  have HL4 : Hid (SR w4 la (zC [0, 3, 4, 5])) := HL.out.stay hB4
  clear hB4 hx
  have HSM : Hid (Calls Try.prog 23 #[.slice la 4 lc, .slice (some ⟨w4.heap.size, 0, none⟩) 4 4] (w4.alloc (.cells #[.int .i64 0, .int .i64 3, .int .i64 4, .int .i64 5] 3)) fun e w' => e = .returned (.bool true) ∧ Below (w4.alloc (.cells #[.int .i64 0, .int .i64 3, .int .i64 4, .int .i64 5] 3)).heap.size (w4.alloc (.cells #[.int .i64 0, .int .i64 3, .int .i64 4, .int .i64 5] 3)) w') :=
    isame_any la _ lc 4 [0, 3, 4, 5] _ (HL4.out.stay (below_new _ _)) (sr_newZ w4 [0, 3, 4, 5] 3) (by decide)
  go_wp2_with (first | (go_at_call 21; refine (num16_any _ _).mono ?_; rintro e yn ⟨rfl, hyn⟩; subst yn) | (go_at_call 23; refine HSM.out.mono ?_; rintro e w5 ⟨rfl, hB5⟩; have HB5 : Hid (Below w.heap.size w w5) := go_on (go_on HB4.out (below_new _ _)) hB5; clear hB5 HSM))
  go_ret
  exact ⟨rfl, HB5.out⟩

set_option maxHeartbeats 4000000 in
set_option maxRecDepth 100000 in
theorem none16_no (p : Option Addr) (w : World) (h : NoM w (.pointer p)) : Calls Try.prog 9 #[.pointer p] w fun e w' => e = .returned (.bool true) ∧ Below w.heap.size w w' := by
  have HX0 : Hid (NoM w (.pointer p)) := h
  have HB0 : Hid (Below w.heap.size w w) := Below.refl _ _
  clear h
  go_enter Try.func9, Try.ntmps9
  go_wp2_with fail
  refine (iIdempotent_no p w HX0.out).mono ?_
  rintro e w1 ⟨rfl, hb⟩
  have HB1 : Hid (Below w.heap.size w w1) := go_on HB0.out hb
  have HX1 : Hid (NoM w1 (.pointer p)) := HX0.out.below hb
  clear hb
  go_wp2_with fail
  refine (iList_no p w1 HX1.out).mono ?_
  rintro e w2 ⟨rfl, hb⟩
  have HB2 : Hid (Below w.heap.size w w2) := go_on HB1.out hb
  have HX2 : Hid (NoM w2 (.pointer p)) := HX1.out.below hb
  clear hb
  go_wp2_with fail
  refine (iOmega_no p w2 HX2.out).mono ?_
  rintro e w3 ⟨rfl, hb⟩
  have HB3 : Hid (Below w.heap.size w w3) := go_on HB2.out hb
  have HX3 : Hid (NoM w3 (.pointer p)) := HX2.out.below hb
  clear hb
  go_wp2_with fail
  refine (iCycle_no p w3 HX3.out).mono ?_
  rintro e w4 ⟨rfl, hb⟩
  have HB4 : Hid (Below w.heap.size w w4) := go_on HB3.out hb
  have HX4 : Hid (NoM w4 (.pointer p)) := HX3.out.below hb
  clear hb
  go_wp2_with fail
  refine (iExponent_no p w4 HX4.out).mono ?_
  rintro e w5 ⟨rfl, hb⟩
  have HB5 : Hid (Below w.heap.size w w5) := go_on HB4.out hb
  have HX5 : Hid (NoM w5 (.pointer p)) := HX4.out.below hb
  clear hb
  go_wp2_with fail
  refine (iRegular_no p w5 HX5.out).mono ?_
  rintro e w6 ⟨rfl, hb⟩
  have HB6 : Hid (Below w.heap.size w w6) := go_on HB5.out hb
  have HX6 : Hid (NoM w6 (.pointer p)) := HX5.out.below hb
  clear hb
  go_wp2_with fail
  refine (iInverses_no p w6 HX6.out).mono ?_
  rintro e w7 ⟨rfl, hb⟩
  have HB7 : Hid (Below w.heap.size w w7) := go_on HB6.out hb
  have HX7 : Hid (NoM w7 (.pointer p)) := HX6.out.below hb
  clear hb
  go_wp2_with fail
  refine (iBelow_no p w7 HX7.out).mono ?_
  rintro e w8 ⟨rfl, hb⟩
  have HB8 : Hid (Below w.heap.size w w8) := go_on HB7.out hb
  have HX8 : Hid (NoM w8 (.pointer p)) := HX7.out.below hb
  clear hb
  go_wp2_with fail
  refine (iBetween_no p w8 HX8.out).mono ?_
  rintro e w9 ⟨rfl, hb⟩
  have HB9 : Hid (Below w.heap.size w w9) := go_on HB8.out hb
  have HX9 : Hid (NoM w9 (.pointer p)) := HX8.out.below hb
  clear hb
  obtain ⟨v, hv⟩ : ∃ v, v = w9.alloc (.cells #[.int .i64 1, .int .i64 1, .int .i64 1, .int .i64 1, .int .i64 1, .int .i64 1, .int .i64 1, .int .i64 1, .int .i64 1] 41) := ⟨_, rfl⟩
  have HV : Hid (v = w9.alloc (.cells #[.int .i64 1, .int .i64 1, .int .i64 1, .int .i64 1, .int .i64 1, .int .i64 1, .int .i64 1, .int .i64 1, .int .i64 1] 41)) := hv
  have HL : Hid (v.heap[w9.heap.size]? = some (.cells #[.int .i64 1, .int .i64 1, .int .i64 1, .int .i64 1, .int .i64 1, .int .i64 1, .int .i64 1, .int .i64 1, .int .i64 1] 41 (0, 0))) := by show _ = _; rw [hv]; exact heap_last _ _
  have HB : Hid (Below w.heap.size w v) := by show Below _ _ _; rw [hv]; exact go_on HB9.out (below_new _ _)
  clear hv
  go_wp2_with fail
  rw [← HV.out]
  go_loopw [23] (fun vi wr => ∃ i : Nat, vi = .int .i64 i ∧ i ≤ 9 ∧ wr = v) (fun vi _ => 9 - (Go.Lib.intOf vi).toNat)
  case atStart => exact ⟨0, rfl, by omega, rfl⟩
  case round =>
    obtain ⟨i, rfl, hi8, rfl⟩ := hrel
    by_cases hi : i < 9
    · have hiI : (i : Int) < 9 := by omega
      have hc : wr.cell? ⟨w9.heap.size, i, none⟩ = some (.int .i64 1) := by
        rw [cell_of_row _ _ _ _ _ _ HL.out]
        have : i = 0 ∨ i = 1 ∨ i = 2 ∨ i = 3 ∨ i = 4 ∨ i = 5 ∨ i = 6 ∨ i = 7 ∨ i = 8 := by omega
        rcases this with rfl | rfl | rfl | rfl | rfl | rfl | rfl | rfl | rfl <;> rfl
      go_wp2_with fail
      refine (num16_any 1 wr).mono ?_
      rintro e wq ⟨rfl, rfl⟩
      go_wp2_with fail
      go_roundw
      case rel => exact ⟨i + 1, by go_num, by omega, by trivial⟩
      case measure => simp [Go.Lib.intOf]; omega
    · have hiI : ¬ (i : Int) < 9 := by omega
      go_wp2_with fail
      go_ret
      exact ⟨rfl, HB.out⟩

end Go.Proofs.Ytafcejipoioigaa
