/- E42 E44, in one text. -/
import Derived.Test.YtflclnkaccbfcaaW1
import Derived.Test.YtflclnkaccbfcaaAb
import Derived.Test.YtflclnkaccbfcaaJh
namespace Go.Proofs.Ytflclnkaccbfcaa
set_option linter.unusedVariables false

theorem least_of {p : Nat → Prop} (h : ∃ n, p n) : ∃ n, p n ∧ ∀ m, m < n → ¬ p m := by
  obtain ⟨n, hn⟩ := h
  induction n using Nat.strongRecOn with
  | _ n ih =>
    by_cases c : ∃ m, m < n ∧ p m
    · obtain ⟨m, hm, hp⟩ := c
      exact ih m hm hp
    · exact ⟨n, hn, fun m hm hp => c ⟨m, hm, hp⟩⟩

/-- Each point has its tail and its ring. -/
theorem tr_ex {f : Nat → Nat} {n i : Nat} (h : ∀ i, i < n → f i < n) (hi : i < n) : ∃ t r, TR f i t r := by
  have h1 : ∃ b, ∃ a, a < b ∧ orb f i a = orb f i b := by
    apply Classical.byContradiction
    intro hc
    have := nodup_le n ((List.range (n + 1)).map (orb f i)) (map_nodup (fun a b hab hb e => hc ⟨b, a, hab, e⟩)) (fun x hx => by
      obtain ⟨k, _, rfl⟩ := List.mem_map.1 hx
      exact orb_lt h hi k)
    simp at this
    omega
  obtain ⟨b, ⟨a, hab, e⟩, hm⟩ := least_of h1
  refine ⟨a, b - a, ?_, ?_, by omega⟩
  · intro c d hcd hd q
    exact hm d (by omega) ⟨c, hcd, q⟩
  · rw [show a + (b - a) = b by omega, e]

/-- Multiplying by i from the right. -/
def rm (K : Nat) (N : List Nat) (i : Nat) : Nat → Nat := fun x => pr K N x i

/-- The power n of i. -/
def pwN (K : Nat) (N : List Nat) (i n : Nat) : Nat := orb (rm K N i) 0 n

theorem pwN_zero (K : Nat) (N : List Nat) (i : Nat) : pwN K N i 0 = 0 := rfl

theorem pwN_succ (K : Nat) (N : List Nat) (i n : Nat) : pwN K N i (n + 1) = pr K N (pwN K N i n) i := rfl

theorem Mon.rm_lt {A : Aut} {M : List (List Nat)} {N : List Nat} (h : Mon A M N) {i : Nat} (hi : i < M.length) : ∀ x, x < M.length → rm A.k.toNat N i x < M.length := fun x hx => h.pr_lt hx hi

theorem Mon.pw_lt {A : Aut} {M : List (List Nat)} {N : List Nat} (h : Mon A M N) {i : Nat} (hi : i < M.length) (n : Nat) : pwN A.k.toNat N i n < M.length := orb_lt (h.rm_lt hi) h.pos n

theorem Mon.pw_one {A : Aut} {M : List (List Nat)} {N : List Nat} (h : Mon A M N) {i : Nat} (hi : i < M.length) : pwN A.k.toNat N i 1 = i := h.one_pr hi

theorem Mon.pw_add {A : Aut} {M : List (List Nat)} {N : List Nat} (h : Mon A M N) {i : Nat} (hi : i < M.length) (a : Nat) : ∀ b, pwN A.k.toNat N i (a + b) = Go.Proofs.Ytflclnkaccbfcaa.pr A.k.toNat N (pwN A.k.toNat N i a) (pwN A.k.toNat N i b)
  | 0 => rfl
  | b + 1 => by rw [← Nat.add_assoc, pwN_succ, h.pw_add hi a b, h.assoc (h.pw_lt hi a) (h.pw_lt hi b) hi, pwN_succ]

theorem Mon.pw_mul {A : Aut} {M : List (List Nat)} {N : List Nat} (h : Mon A M N) {i : Nat} (hi : i < M.length) (a : Nat) : ∀ b, pwN A.k.toNat N (pwN A.k.toNat N i a) b = pwN A.k.toNat N i (a * b)
  | 0 => rfl
  | b + 1 => by rw [pwN_succ, h.pw_mul hi a b, Nat.mul_succ, h.pw_add hi]

theorem Mon.pw_idem {A : Aut} {M : List (List Nat)} {N : List Nat} (h : Mon A M N) {x : Nat} (hx : x < M.length) (e : Go.Proofs.Ytflclnkaccbfcaa.pr A.k.toNat N x x = x) : ∀ n, 1 ≤ n → pwN A.k.toNat N x n = x
  | 0, h0 => by omega
  | 1, _ => h.pw_one hx
  | n + 2, _ => by rw [pwN_succ, h.pw_idem hx e (n + 1) (by omega), e]

/-- w is the idempotent among i's powers. -/
def OmQ (K : Nat) (N : List Nat) (i w : Nat) : Prop := ∃ n, 1 ≤ n ∧ pwN K N i n = w ∧ pr K N w w = w

theorem Mon.om_uniq {A : Aut} {M : List (List Nat)} {N : List Nat} (h : Mon A M N) {i : Nat} (hi : i < M.length) {x y : Nat} (hx : OmQ A.k.toNat N i x) (hy : OmQ A.k.toNat N i y) : x = y := by
  obtain ⟨n, n1, rfl, hn⟩ := hx
  obtain ⟨m, m1, rfl, hm⟩ := hy
  rw [← h.pw_idem (h.pw_lt hi n) hn m m1, ← h.pw_idem (h.pw_lt hi m) hm n n1, h.pw_mul hi, h.pw_mul hi, Nat.mul_comm]

theorem Mon.om_lt {A : Aut} {M : List (List Nat)} {N : List Nat} (h : Mon A M N) {i : Nat} (hi : i < M.length) {x : Nat} (hx : OmQ A.k.toNat N i x) : x < M.length := by
  obtain ⟨n, _, rfl, _⟩ := hx
  exact h.pw_lt hi n

/-- A power is idempotent just from the index on, at multiples of the period. -/
theorem Mon.idem_iff {A : Aut} {M : List (List Nat)} {N : List Nat} (h : Mon A M N) {i : Nat} (hi : i < M.length) {t r : Nat} (R : TR (rm A.k.toNat N i) 0 t r) (n : Nat) (hn : 1 ≤ n) : Go.Proofs.Ytflclnkaccbfcaa.pr A.k.toNat N (pwN A.k.toNat N i n) (pwN A.k.toNat N i n) = pwN A.k.toNat N i n ↔ t ≤ n ∧ r ∣ n := by
  rw [← h.pw_add hi]
  exact R.iff n n hn

theorem Mon.om_ex {A : Aut} {M : List (List Nat)} {N : List Nat} (h : Mon A M N) {i : Nat} (hi : i < M.length) : ∃ n, 1 ≤ n ∧ n ≤ M.length ∧ Go.Proofs.Ytflclnkaccbfcaa.pr A.k.toNat N (pwN A.k.toNat N i n) (pwN A.k.toNat N i n) = pwN A.k.toNat N i n := by
  obtain ⟨t, r, R⟩ := tr_ex (h.rm_lt hi) h.pos
  have hle := R.le (h.rm_lt hi) h.pos
  have hr := R.pos
  by_cases ht : t = 0
  · exact ⟨r, hr, by omega, (h.idem_iff hi R r hr).2 ⟨by omega, Nat.dvd_refl _⟩⟩
  · have e := Nat.mod_add_div (t + r - 1) r
    have hm := Nat.mod_lt (t + r - 1) hr
    refine ⟨r * ((t + r - 1) / r), by omega, by omega, (h.idem_iff hi R _ (by omega)).2 ⟨by omega, Nat.dvd_mul_right _ _⟩⟩

/-- Powers of products, turned about. -/
theorem Mon.pw_turn {A : Aut} {M : List (List Nat)} {N : List Nat} (h : Mon A M N) {i j : Nat} (hi : i < M.length) (hj : j < M.length) : ∀ n, pwN A.k.toNat N (Go.Proofs.Ytflclnkaccbfcaa.pr A.k.toNat N i j) (n + 1) = Go.Proofs.Ytflclnkaccbfcaa.pr A.k.toNat N (Go.Proofs.Ytflclnkaccbfcaa.pr A.k.toNat N i (pwN A.k.toNat N (Go.Proofs.Ytflclnkaccbfcaa.pr A.k.toNat N j i) n)) j
  | 0 => by rw [h.pw_one (h.pr_lt hi hj)]; rfl
  | n + 1 => by
    have hji := h.pr_lt hj hi
    have hp := h.pw_lt hji n
    rw [pwN_succ, h.pw_turn hi hj n, pwN_succ, h.assoc (h.pr_lt hi hp) hj (h.pr_lt hi hj), ← h.assoc hj hi hj, ← h.assoc (h.pr_lt hi hp) hji hj, ← h.assoc hi hp hji]

theorem Mon.per_dvd {A : Aut} {M : List (List Nat)} {N : List Nat} (h : Mon A M N) {i j : Nat} (hi : i < M.length) (hj : j < M.length) {t r t' r' : Nat} (R : TR (rm A.k.toNat N (Go.Proofs.Ytflclnkaccbfcaa.pr A.k.toNat N i j)) 0 t r) (R' : TR (rm A.k.toNat N (Go.Proofs.Ytflclnkaccbfcaa.pr A.k.toNat N j i)) 0 t' r') : r ∣ r' := by
  have e : pwN A.k.toNat N (Go.Proofs.Ytflclnkaccbfcaa.pr A.k.toNat N i j) (t' + 1 + r') = pwN A.k.toNat N (Go.Proofs.Ytflclnkaccbfcaa.pr A.k.toNat N i j) (t' + 1) := by
    rw [show t' + 1 + r' = (t' + r') + 1 by omega, h.pw_turn hi hj, h.pw_turn hi hj]
    have : pwN A.k.toNat N (Go.Proofs.Ytflclnkaccbfcaa.pr A.k.toNat N j i) (t' + r') = pwN A.k.toNat N (Go.Proofs.Ytflclnkaccbfcaa.pr A.k.toNat N j i) t' := R'.back
    rw [this]
  exact ((R.iff _ _ R'.pos).1 e).2

theorem Mon.per_same {A : Aut} {M : List (List Nat)} {N : List Nat} (h : Mon A M N) {i j : Nat} (hi : i < M.length) (hj : j < M.length) {t r t' r' : Nat} (R : TR (rm A.k.toNat N (Go.Proofs.Ytflclnkaccbfcaa.pr A.k.toNat N i j)) 0 t r) (R' : TR (rm A.k.toNat N (Go.Proofs.Ytflclnkaccbfcaa.pr A.k.toNat N j i)) 0 t' r') : r = r' :=
  Nat.dvd_antisymm (h.per_dvd hi hj R R') (h.per_dvd hj hi R' R)

end Go.Proofs.Ytflclnkaccbfcaa

namespace Go.Proofs.Ytflclnkaccbfcaa
open Go Go.RowKit Go.Lib Go.Maps
set_option linter.unusedVariables false
attribute [-instance] List.instBEq instBEqProd

theorem SR.nat {w : World} {a : Option Addr} {xs : List Nat} (h : SR w a (nC xs)) {i : Nat} (hi : i < xs.length) : ∃ g o, a = some ⟨g, o, none⟩ ∧ g < w.heap.size ∧ w.cell? ⟨g, o + i, none⟩ = some (.int .i64 ((xs.getD i 0 : Nat) : Int)) :=
  h i _ (by simp [nC, hi, List.getD_eq_getElem?_getD])

/-- The product of elements one behind the other. -/
def prL (K : Nat) (N : List Nat) (L : List Nat) : Nat := L.foldl (pr K N) 0

theorem Mon.prL_lt {A : Aut} {M : List (List Nat)} {N : List Nat} (h : Mon A M N) {L : List Nat} (hL : ∀ x ∈ L, x < M.length) : prL A.k.toNat N L < M.length := by
  unfold prL
  have : ∀ (L : List Nat) (o : Nat), o < M.length → (∀ x ∈ L, x < M.length) → L.foldl (Go.Proofs.Ytflclnkaccbfcaa.pr A.k.toNat N) o < M.length := by
    intro L
    induction L with
    | nil => intro o ho _; exact ho
    | cons y L ih => intro o ho hL; exact ih _ (h.pr_lt ho (hL y (by simp))) (fun x hx => hL x (by simp [hx]))
  exact this L 0 h.pos hL

set_option maxHeartbeats 1000000 in
set_option maxRecDepth 100000 in
theorem iprod_any {w : World} {ob : Nat} {A : Aut} {M : List (List Nat)} {N : List Nat} (h : MO w ob A M N) (a : Option Addr) (cap : Nat) (L : List Nat) (hL : ∀ x ∈ L, x < M.length) (hS : SR w a (nC L)) (hm : L.length ≤ 9223372036854775806) :
    Calls Try.prog 55 #[.pointer (some ⟨ob, 0, none⟩), .slice a L.length cap] w fun e w' => e = .returned (.int .i64 (prL A.k.toNat N L : Nat)) ∧ Below w.heap.size w w' := by
  have HM : Hid (MO w ob A M N) := h
  have HMon : Hid (Mon A M N) := by
    obtain ⟨_, _, _, _, _, _, _, _, _, _, _, _, _, _, _, _, _, q⟩ := h
    exact q.mon
  have HL : Hid (∀ x ∈ L, x < M.length) := hL
  have HS : Hid (SR w a (nC L)) := hS
  clear h hL hS
  go_enter Try.func55, Try.ntmps55
  go_wp2_with fail
  go_loopw [5, 10] (fun vo vi wr => ∃ i : Nat, i ≤ L.length ∧ vi = .int .i64 i ∧ vo = .int .i64 (prL A.k.toNat N (L.take i) : Nat) ∧ Below w.heap.size w wr) (fun _ vi _ => L.length - (Go.Lib.intOf vi).toNat)
  case atStart => exact ⟨0, Nat.zero_le _, rfl, rfl, Below.refl _ _⟩
  case round =>
    obtain ⟨i, hi, rfl, rfl, hb⟩ := hrel
    have HB : Hid (Below w.heap.size w wr) := hb
    by_cases hlt : i < L.length
    · have hiI : (i : Int) < L.length := by omega
      obtain ⟨g, o, rfl, _, hc⟩ := (HS.out.stay hb).nat hlt
      obtain ⟨x, hx⟩ : ∃ x, L.getD i 0 = x := ⟨_, rfl⟩
      rw [hx] at hc
      have hxL : L[i]? = some x := by rw [List.getElem?_eq_getElem hlt, ← hx]; simp [hlt]
      have hxl : x < M.length := HL.out x (List.mem_of_getElem? hxL)
      have HT : Hid (pr A.k.toNat N (prL A.k.toNat N (L.take i)) x = prL A.k.toNat N (L.take (i + 1))) := by
        show _ = _
        rw [List.take_add_one, hxL]
        simp [prL]
      obtain ⟨y, hy⟩ : ∃ y, prL A.k.toNat N (L.take i) = y := ⟨_, rfl⟩
      have hyl : y < M.length := by rw [← hy]; exact HMon.out.prL_lt (fun z hz => HL.out z (List.mem_of_mem_take hz))
      rw [hy] at HT ⊢
      have HLT : Hid (i < L.length) := hlt
      clear hb hx hxL hy hlt
      go_wp2_with fail
      refine (mproduct_ok (HM.out.below HB.out) y x hyl hxl).mono ?_
      rintro e w1 ⟨rfl, hb1⟩
      rw [HT.out]
      have HB1 : Hid (Below w.heap.size w w1) := go_on HB.out hb1
      clear hb1 hc
      go_wp2_with fail
      go_roundw
      case rel => exact ⟨i + 1, HLT.out, by go_num, rfl, HB1.out⟩
      case measure => have := HLT.out; simp [Go.Lib.intOf]; omega
    · have hiI : ¬ (i : Int) < L.length := by omega
      have e : L.take i = L := List.take_of_length_le (by omega)
      rw [e]
      clear hb
      go_wp2_with fail
      go_ret
      exact ⟨rfl, HB.out⟩

theorem sr_new (w : World) (cs : List Nat) (t : Nat) : SR (w.alloc (.cells (nC cs).toArray t)) (some ⟨w.heap.size, 0, none⟩) (nC cs) := by
  intro i u hu
  refine ⟨_, _, rfl, by simp, ?_⟩
  rw [Nat.zero_add, cell_of_row _ _ _ _ _ _ (heap_last w _)]
  simpa using hu

theorem iprod_new {w : World} {ob : Nat} {A : Aut} {M : List (List Nat)} {N : List Nat} (h : MO w ob A M N) (L : List Nat) (hL : ∀ x ∈ L, x < M.length) (hm : L.length ≤ 100) (t : Nat) :
    Calls Try.prog 55 #[.pointer (some ⟨ob, 0, none⟩), .slice (some ⟨w.heap.size, 0, none⟩) L.length L.length] (w.alloc (.cells (nC L).toArray t)) fun e w' => e = .returned (.int .i64 (prL A.k.toNat N L : Nat)) ∧ Below w.heap.size w w' := by
  refine (iprod_any (h.below (below_new _ _)) _ _ L hL (sr_new w L t) (by omega)).mono ?_
  rintro e w1 ⟨rfl, hb⟩
  exact ⟨rfl, go_on (below_new _ _) hb⟩

theorem MO.mon {w : World} {ob : Nat} {A : Aut} {M : List (List Nat)} {N : List Nat} (h : MO w ob A M N) : Mon A M N := by
  obtain ⟨_, _, _, _, _, _, _, _, _, _, _, _, _, _, _, _, _, q⟩ := h
  exact q.mon

/-- Two and three factors. -/
theorem iprod_two {w : World} {ob : Nat} {A : Aut} {M : List (List Nat)} {N : List Nat} (h : MO w ob A M N) (x y : Nat) (hx : x < M.length) (hy : y < M.length) :
    Calls Try.prog 55 #[.pointer (some ⟨ob, 0, none⟩), .slice (some ⟨w.heap.size, 0, none⟩) 2 2] (w.alloc (.cells #[.int .i64 (x : Nat), .int .i64 (y : Nat)] 3)) fun e w' => e = .returned (.int .i64 (pr A.k.toNat N x y : Nat)) ∧ Below w.heap.size w w' := by
  have q := iprod_new h [x, y] (by simp; exact ⟨hx, hy⟩) (by simp) 3
  have e : prL A.k.toNat N [x, y] = pr A.k.toNat N x y := by show pr _ _ (pr _ _ 0 x) y = _; rw [h.mon.one_pr hx]
  rw [e] at q
  exact q

theorem iprod_three {w : World} {ob : Nat} {A : Aut} {M : List (List Nat)} {N : List Nat} (h : MO w ob A M N) (x y z : Nat) (hx : x < M.length) (hy : y < M.length) (hz : z < M.length) :
    Calls Try.prog 55 #[.pointer (some ⟨ob, 0, none⟩), .slice (some ⟨w.heap.size, 0, none⟩) 3 3] (w.alloc (.cells #[.int .i64 (x : Nat), .int .i64 (y : Nat), .int .i64 (z : Nat)] 3)) fun e w' => e = .returned (.int .i64 (pr A.k.toNat N (pr A.k.toNat N x y) z : Nat)) ∧ Below w.heap.size w w' := by
  have q := iprod_new h [x, y, z] (by simp; exact ⟨hx, hy, hz⟩) (by simp) 3
  have e : prL A.k.toNat N [x, y, z] = pr A.k.toNat N (pr A.k.toNat N x y) z := by show pr _ _ (pr _ _ (pr _ _ 0 x) y) z = _; rw [h.mon.one_pr hx]
  rw [e] at q
  exact q

/-- Is it idempotent? -/
def idE (K : Nat) (N : List Nat) (i : Nat) : Bool := decide (pr K N i i = i)

set_option maxHeartbeats 1000000 in
set_option maxRecDepth 100000 in
theorem isIdem_any {w : World} {ob : Nat} {A : Aut} {M : List (List Nat)} {N : List Nat} (h : MO w ob A M N) (i : Nat) (hi : i < M.length) :
    Calls Try.prog 44 #[.pointer (some ⟨ob, 0, none⟩), .int .i64 i] w fun e w' => e = .returned (.bool (idE A.k.toNat N i)) ∧ Below w.heap.size w w' := by
  have HP : Hid _ := iprod_two h i i hi hi
  obtain ⟨p, hp⟩ : ∃ p, pr A.k.toNat N i i = p := ⟨_, rfl⟩
  have HE : Hid (idE A.k.toNat N i = decide ((p : Int) = (i : Int))) := by
    show _ = _
    unfold idE
    rw [hp]
    congr 1
    apply propext
    omega
  rw [hp] at HP
  clear h hp
  go_enter Try.func44, Try.ntmps44
  go_wp2_with fail
  refine Calls.mono HP.out ?_
  rintro e w1 ⟨rfl, hb⟩
  have HB : Hid (Below w.heap.size w w1) := hb
  clear hb
  by_cases c : p = i
  · have c1 : ((p : Int) == (i : Int)) = true := by rw [beq_iff_eq]; omega
    have HE2 : Hid (idE A.k.toNat N i = true) := by show _ = _; rw [HE.out]; exact decide_eq_true (by omega)
    go_wp2_with fail
    go_ret
    exact ⟨by rw [HE2.out]; first | rfl | simp [c], HB.out⟩
  · have c1 : ((p : Int) == (i : Int)) = false := by rw [beq_eq_false_iff_ne]; omega
    have HE2 : Hid (idE A.k.toNat N i = false) := by show _ = _; rw [HE.out]; exact decide_eq_false (by omega)
    go_wp2_with fail
    go_ret
    exact ⟨by rw [HE2.out]; first | rfl | simp [c], HB.out⟩

/-- What check answers of some numbers. -/
def ick (n : Nat) (L : List Int) : Int := if L.all (hasE n) then 0 else 11

set_option maxHeartbeats 1000000 in
set_option maxRecDepth 100000 in
theorem icheck_any {w : World} {ob : Nat} {A : Aut} {M : List (List Nat)} {N : List Nat} (h : MO w ob A M N) (a : Option Addr) (cap : Nat) (L : List Int) (hS : SR w a (zC L)) (hm : L.length ≤ 9223372036854775806) :
    Calls Try.prog 43 #[.pointer (some ⟨ob, 0, none⟩), .slice a L.length cap] w fun e w' => e = .returned (.int .i64 (ick M.length L)) ∧ w = w' := by
  have HM : Hid (MO w ob A M N) := h
  have HS : Hid (SR w a (zC L)) := hS
  have hn0 : ((M.length : Int) == 0) = false := by rw [beq_eq_false_iff_ne]; have := h.mon.pos; omega
  have hn1 : ¬ (M.length : Int) = 0 := by have := h.mon.pos; omega
  have hn2 : ¬ M.length = 0 := by omega
  obtain ⟨n, hn⟩ : ∃ n, M.length = n := ⟨_, rfl⟩
  have HLN : Hid (Calls Try.prog 34 #[.pointer (some ⟨ob, 0, none⟩)] w fun e w' => e = .returned (.int .i64 (n : Nat)) ∧ w = w') := by
    have := mlen_any HM.out
    rw [hn] at this
    exact this
  rw [hn] at hn0 hn1 hn2 ⊢
  clear h hS hn
  go_enter Try.func43, Try.ntmps43
  go_wp2_with fail
  refine HLN.out.mono ?_
  rintro e w1 ⟨rfl, rfl⟩
  go_wp2_with fail
  go_loopw [14] (fun vi wr => ∃ i : Nat, i ≤ L.length ∧ vi = .int .i64 i ∧ (∀ j, j < i → hasE n (L.getD j 0) = true) ∧ wr = w) (fun vi _ => L.length - (Go.Lib.intOf vi).toNat)
  case atStart => exact ⟨0, Nat.zero_le _, rfl, fun j hj => by omega, rfl⟩
  case round =>
    obtain ⟨i, hi, rfl, hall, rfl⟩ := hrel
    have HA : Hid (∀ j, j < i → hasE n (L.getD j 0) = true) := hall
    clear hall
    by_cases hlt : i < L.length
    · have hiI : (i : Int) < L.length := by omega
      obtain ⟨g, o, rfl, _, hc⟩ := HS.out.int hlt
      have HLT : Hid (i < L.length) := hlt
      obtain ⟨x, hx⟩ : ∃ x, L.getD i 0 = x := ⟨_, rfl⟩
      have HX : Hid (L.getD i 0 = x) := hx
      have hxm : x ∈ L := by
        rw [← hx, List.getD_eq_getElem?_getD, List.getElem?_eq_getElem hlt]
        exact List.getElem_mem hlt
      have HXM : Hid (x ∈ L) := hxm
      rw [hx] at hc
      clear hx hxm hlt
      by_cases h0 : 0 ≤ x
      · have h0d : decide (x < 0) = false := by simpa using h0
        by_cases h1 : x < n
        · have h1d : decide ((n : Int) ≤ x) = false := by simpa using h1
          have h1' : ¬ (n : Int) ≤ x := by omega
          have HH : Hid (hasE n x = true) := decide_eq_true ⟨h0, h1⟩
          go_wp2_with fail
          go_roundw
          case rel =>
            refine ⟨i + 1, HLT.out, by go_num, fun j hj => ?_, trivial⟩
            by_cases e : j = i
            · rw [e, HX.out]; exact HH.out
            · exact HA.out j (by omega)
          case measure => have := HLT.out; simp [Go.Lib.intOf]; omega
        · have h1d : decide ((n : Int) ≤ x) = true := by simpa using h1
          have h1' : (n : Int) ≤ x := by omega
          have HE : Hid (ick n L = 11) := by
            show _ = _
            unfold ick
            rw [if_neg (fun q => ?_)]
            have := of_decide_eq_true (List.all_eq_true.1 q x HXM.out)
            omega
          go_wp2_with fail
          go_ret
          exact ⟨by rw [HE.out]; rfl, rfl⟩
      · have h0d : decide (x < 0) = true := by simpa using h0
        have h0' : x < 0 := by omega
        have HE : Hid (ick n L = 11) := by
          show _ = _
          unfold ick
          rw [if_neg (fun q => ?_)]
          have := of_decide_eq_true (List.all_eq_true.1 q x HXM.out)
          omega
        go_wp2_with fail
        go_ret
        exact ⟨by rw [HE.out]; rfl, rfl⟩
    · have hiI : ¬ (i : Int) < L.length := by omega
      have HE : Hid (ick n L = 0) := by
        show _ = _
        unfold ick
        rw [if_pos]
        rw [List.all_eq_true]
        intro x hx
        obtain ⟨j, hj, rfl⟩ := List.mem_iff_getElem.1 hx
        have := HA.out j (by omega)
        rw [List.getD_eq_getElem?_getD, List.getElem?_eq_getElem hj] at this
        exact this
      go_wp2_with fail
      go_ret
      exact ⟨by rw [HE.out]; rfl, rfl⟩

theorem sr_newZ (w : World) (cs : List Int) (t : Nat) : SR (w.alloc (.cells (zC cs).toArray t)) (some ⟨w.heap.size, 0, none⟩) (zC cs) := by
  intro i u hu
  refine ⟨_, _, rfl, by simp, ?_⟩
  rw [Nat.zero_add, cell_of_row _ _ _ _ _ _ (heap_last w _)]
  simpa using hu

theorem icheck_one {w : World} {ob : Nat} {A : Aut} {M : List (List Nat)} {N : List Nat} (h : MO w ob A M N) (i : Int) :
    Calls Try.prog 43 #[.pointer (some ⟨ob, 0, none⟩), .slice (some ⟨w.heap.size, 0, none⟩) 1 1] (w.alloc (.cells #[.int .i64 i] 3)) fun e w' => e = .returned (.int .i64 (if hasE M.length i = true then 0 else 11)) ∧ w' = w.alloc (.cells #[.int .i64 i] 3) := by
  have q := icheck_any (h.below (below_new _ _)) _ 1 [i] (sr_newZ w [i] 3) (by simp)
  refine q.mono ?_
  rintro e w1 ⟨rfl, rfl⟩
  refine ⟨?_, rfl⟩
  congr 2
  simp [ick]

theorem icheck_none {w : World} {ob : Nat} {A : Aut} {M : List (List Nat)} {N : List Nat} (h : MO w ob A M N) :
    Calls Try.prog 43 #[.pointer (some ⟨ob, 0, none⟩), .slice none 0 0] w fun e w' => e = .returned (.int .i64 0) ∧ w = w' := by
  have q := icheck_any h none 0 [] (SR.nil _ _) (by simp)
  exact q
end Go.Proofs.Ytflclnkaccbfcaa
