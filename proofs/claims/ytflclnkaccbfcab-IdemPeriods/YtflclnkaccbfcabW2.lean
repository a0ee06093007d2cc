/- E44 E46 E47, in one text. -/
import Derived.Test.YtflclnkaccbfcabW1
import Derived.Test.YtflclnkaccbfcabJh
import Derived.Test.YtflclnkaccbfcabJi
import Derived.Laws.EntriesVeiled
import Derived.Test.YtflclnkaccbfcabRk
namespace Go.Proofs.Ytflclnkaccbfcab
open Go Go.RowKit Go.Lib Go.Maps
set_option linter.unusedVariables false
attribute [-instance] List.instBEq instBEqProd

theorem SR.nat {w : World} {a : Option Addr} {xs : List Nat} (h : SR w a (nC xs)) {i : Nat} (hi : i < xs.length) : ∃ g o, a = some ⟨g, o, none⟩ ∧ g < w.heap.size ∧ w.cell? ⟨g, o + i, none⟩ = some (.int .i64 ((xs.getD i 0 : Nat) : Int)) :=
  h i _ (by simp [nC, hi, List.getD_eq_getElem?_getD])

/-- The product of elements one behind the other. -/
def prL (K : Nat) (N : List Nat) (L : List Nat) : Nat := L.foldl (pr K N) 0

theorem Mon.prL_lt {A : Aut} {M : List (List Nat)} {N : List Nat} (h : Mon A M N) {L : List Nat} (hL : ∀ x ∈ L, x < M.length) : prL A.k.toNat N L < M.length := by
  unfold prL
  have : ∀ (L : List Nat) (o : Nat), o < M.length → (∀ x ∈ L, x < M.length) → L.foldl (Go.Proofs.Ytflclnkaccbfcab.pr A.k.toNat N) o < M.length := by
    intro L
    induction L with
    | nil => intro o ho _; exact ho
    | cons y L ih => intro o ho hL; exact ih _ (h.pr_lt ho (hL y (by simp))) (fun x hx => hL x (by simp [hx]))
  exact this L 0 h.pos hL

set_option maxHeartbeats 1000000 in
set_option maxRecDepth 100000 in
theorem iprod_any {w : World} {ob : Nat} {A : Aut} {M : List (List Nat)} {N : List Nat} (h : MO w ob A M N) (a : Option Addr) (cap : Nat) (L : List Nat) (hL : ∀ x ∈ L, x < M.length) (hS : SR w a (nC L)) (hm : L.length ≤ 9223372036854775806) :
    Calls Try.prog 52 #[.pointer (some ⟨ob, 0, none⟩), .slice a L.length cap] w fun e w' => e = .returned (.int .i64 (prL A.k.toNat N L : Nat)) ∧ Below w.heap.size w w' := by
  have HM : Hid (MO w ob A M N) := h
  have HMon : Hid (Mon A M N) := by
    obtain ⟨_, _, _, _, _, _, _, _, _, _, _, _, _, _, _, _, _, q⟩ := h
    exact q.mon
  have HL : Hid (∀ x ∈ L, x < M.length) := hL
  have HS : Hid (SR w a (nC L)) := hS
  clear h hL hS
  go_enter Try.func52, Try.ntmps52
  go_wp2_with fail
  go_loopw [5, 10] (fun vo vi wr => ∃ i : Nat, i ≤ L.length ∧ vi = .int .i64 i ∧ vo = .int .i64 (prL A.k.toNat N (L.take i) : Nat) ∧ Below w.heap.size w wr) (fun _ vi _ => L.length - (Go.Lib.intOf vi).toNat)
  case atStart => exact ⟨0, Nat.zero_le _, rfl, rfl, Below.refl _ _⟩
  case round =>
    obtain ⟨i, hi, rfl, rfl, hb⟩ := hrel
    have HB : Hid (Below w.heap.size w wr) := hb
    by_cases hlt : i < L.length
    · have hiI : (i : Int) < L.length := by omega
      obtain ⟨g, o, rfl, _, hc⟩ := (HS.out.stay hb).nat hlt
      obtain ⟨x, hx⟩ : ∃ x, L.getD i 0 = x := ⟨_, rfl⟩
      rw [hx] at hc
      have hxL : L[i]? = some x := by rw [List.getElem?_eq_getElem hlt, ← hx]; simp [hlt]
      have hxl : x < M.length := HL.out x (List.mem_of_getElem? hxL)
      have HT : Hid (pr A.k.toNat N (prL A.k.toNat N (L.take i)) x = prL A.k.toNat N (L.take (i + 1))) := by
        show _ = _
        rw [List.take_add_one, hxL]
        simp [prL]
      obtain ⟨y, hy⟩ : ∃ y, prL A.k.toNat N (L.take i) = y := ⟨_, rfl⟩
      have hyl : y < M.length := by rw [← hy]; exact HMon.out.prL_lt (fun z hz => HL.out z (List.mem_of_mem_take hz))
      rw [hy] at HT ⊢
      have HLT : Hid (i < L.length) := hlt
      clear hb hx hxL hy hlt
      go_wp2_with fail
      refine (mproduct_ok (HM.out.below HB.out) y x hyl hxl).mono ?_
      rintro e w1 ⟨rfl, hb1⟩
      rw [HT.out]
      have HB1 : Hid (Below w.heap.size w w1) := go_on HB.out hb1
      clear hb1 hc
      go_wp2_with fail
      go_roundw
      case rel => exact ⟨i + 1, HLT.out, by go_num, rfl, HB1.out⟩
      case measure => have := HLT.out; simp [Go.Lib.intOf]; omega
    · have hiI : ¬ (i : Int) < L.length := by omega
      have e : L.take i = L := List.take_of_length_le (by omega)
      rw [e]
      clear hb
      go_wp2_with fail
      go_ret
      exact ⟨rfl, HB.out⟩

theorem sr_new (w : World) (cs : List Nat) (t : Nat) : SR (w.alloc (.cells (nC cs).toArray t)) (some ⟨w.heap.size, 0, none⟩) (nC cs) := by
  intro i u hu
  refine ⟨_, _, rfl, by simp, ?_⟩
  rw [Nat.zero_add, cell_of_row _ _ _ _ _ _ (heap_last w _)]
  simpa using hu

theorem iprod_new {w : World} {ob : Nat} {A : Aut} {M : List (List Nat)} {N : List Nat} (h : MO w ob A M N) (L : List Nat) (hL : ∀ x ∈ L, x < M.length) (hm : L.length ≤ 100) (t : Nat) :
    Calls Try.prog 52 #[.pointer (some ⟨ob, 0, none⟩), .slice (some ⟨w.heap.size, 0, none⟩) L.length L.length] (w.alloc (.cells (nC L).toArray t)) fun e w' => e = .returned (.int .i64 (prL A.k.toNat N L : Nat)) ∧ Below w.heap.size w w' := by
  refine (iprod_any (h.below (below_new _ _)) _ _ L hL (sr_new w L t) (by omega)).mono ?_
  rintro e w1 ⟨rfl, hb⟩
  exact ⟨rfl, go_on (below_new _ _) hb⟩

theorem MO.mon {w : World} {ob : Nat} {A : Aut} {M : List (List Nat)} {N : List Nat} (h : MO w ob A M N) : Mon A M N := by
  obtain ⟨_, _, _, _, _, _, _, _, _, _, _, _, _, _, _, _, _, q⟩ := h
  exact q.mon

/-- Two and three factors. -/
theorem iprod_two {w : World} {ob : Nat} {A : Aut} {M : List (List Nat)} {N : List Nat} (h : MO w ob A M N) (x y : Nat) (hx : x < M.length) (hy : y < M.length) :
    Calls Try.prog 52 #[.pointer (some ⟨ob, 0, none⟩), .slice (some ⟨w.heap.size, 0, none⟩) 2 2] (w.alloc (.cells #[.int .i64 (x : Nat), .int .i64 (y : Nat)] 3)) fun e w' => e = .returned (.int .i64 (pr A.k.toNat N x y : Nat)) ∧ Below w.heap.size w w' := by
  have q := iprod_new h [x, y] (by simp; exact ⟨hx, hy⟩) (by simp) 3
  have e : prL A.k.toNat N [x, y] = pr A.k.toNat N x y := by show pr _ _ (pr _ _ 0 x) y = _; rw [h.mon.one_pr hx]
  rw [e] at q
  exact q

theorem iprod_three {w : World} {ob : Nat} {A : Aut} {M : List (List Nat)} {N : List Nat} (h : MO w ob A M N) (x y z : Nat) (hx : x < M.length) (hy : y < M.length) (hz : z < M.length) :
    Calls Try.prog 52 #[.pointer (some ⟨ob, 0, none⟩), .slice (some ⟨w.heap.size, 0, none⟩) 3 3] (w.alloc (.cells #[.int .i64 (x : Nat), .int .i64 (y : Nat), .int .i64 (z : Nat)] 3)) fun e w' => e = .returned (.int .i64 (pr A.k.toNat N (pr A.k.toNat N x y) z : Nat)) ∧ Below w.heap.size w w' := by
  have q := iprod_new h [x, y, z] (by simp; exact ⟨hx, hy, hz⟩) (by simp) 3
  have e : prL A.k.toNat N [x, y, z] = pr A.k.toNat N (pr A.k.toNat N x y) z := by show pr _ _ (pr _ _ (pr _ _ 0 x) y) z = _; rw [h.mon.one_pr hx]
  rw [e] at q
  exact q

/-- Is it idempotent? -/
def idE (K : Nat) (N : List Nat) (i : Nat) : Bool := decide (pr K N i i = i)

set_option maxHeartbeats 1000000 in
set_option maxRecDepth 100000 in
theorem isIdem_any {w : World} {ob : Nat} {A : Aut} {M : List (List Nat)} {N : List Nat} (h : MO w ob A M N) (i : Nat) (hi : i < M.length) :
    Calls Try.prog 41 #[.pointer (some ⟨ob, 0, none⟩), .int .i64 i] w fun e w' => e = .returned (.bool (idE A.k.toNat N i)) ∧ Below w.heap.size w w' := by
  have HP : Hid _ := iprod_two h i i hi hi
  obtain ⟨p, hp⟩ : ∃ p, pr A.k.toNat N i i = p := ⟨_, rfl⟩
  have HE : Hid (idE A.k.toNat N i = decide ((p : Int) = (i : Int))) := by
    show _ = _
    unfold idE
    rw [hp]
    congr 1
    apply propext
    omega
  rw [hp] at HP
  clear h hp
  go_enter Try.func41, Try.ntmps41
  go_wp2_with fail
  refine Calls.mono HP.out ?_
  rintro e w1 ⟨rfl, hb⟩
  have HB : Hid (Below w.heap.size w w1) := hb
  clear hb
  by_cases c : p = i
  · have c1 : ((p : Int) == (i : Int)) = true := by rw [beq_iff_eq]; omega
    have HE2 : Hid (idE A.k.toNat N i = true) := by show _ = _; rw [HE.out]; exact decide_eq_true (by omega)
    go_wp2_with fail
    go_ret
    exact ⟨by rw [HE2.out]; first | rfl | simp [c], HB.out⟩
  · have c1 : ((p : Int) == (i : Int)) = false := by rw [beq_eq_false_iff_ne]; omega
    have HE2 : Hid (idE A.k.toNat N i = false) := by show _ = _; rw [HE.out]; exact decide_eq_false (by omega)
    go_wp2_with fail
    go_ret
    exact ⟨by rw [HE2.out]; first | rfl | simp [c], HB.out⟩

/-- What check answers of some numbers. -/
def ick (n : Nat) (L : List Int) : Int := if L.all (hasE n) then 0 else 11

set_option maxHeartbeats 1000000 in
set_option maxRecDepth 100000 in
theorem icheck_any {w : World} {ob : Nat} {A : Aut} {M : List (List Nat)} {N : List Nat} (h : MO w ob A M N) (a : Option Addr) (cap : Nat) (L : List Int) (hS : SR w a (zC L)) (hm : L.length ≤ 9223372036854775806) :
    Calls Try.prog 21 #[.pointer (some ⟨ob, 0, none⟩), .slice a L.length cap] w fun e w' => e = .returned (.int .i64 (ick M.length L)) ∧ w = w' := by
  have HM : Hid (MO w ob A M N) := h
  have HS : Hid (SR w a (zC L)) := hS
  have hn0 : ((M.length : Int) == 0) = false := by rw [beq_eq_false_iff_ne]; have := h.mon.pos; omega
  have hn1 : ¬ (M.length : Int) = 0 := by have := h.mon.pos; omega
  have hn2 : ¬ M.length = 0 := by omega
  obtain ⟨n, hn⟩ : ∃ n, M.length = n := ⟨_, rfl⟩
  have HLN : Hid (Calls Try.prog 6 #[.pointer (some ⟨ob, 0, none⟩)] w fun e w' => e = .returned (.int .i64 (n : Nat)) ∧ w = w') := by
    have := mlen_any HM.out
    rw [hn] at this
    exact this
  rw [hn] at hn0 hn1 hn2 ⊢
  clear h hS hn
  go_enter Try.func21, Try.ntmps21
  go_wp2_with fail
  refine HLN.out.mono ?_
  rintro e w1 ⟨rfl, rfl⟩
  go_wp2_with fail
  go_loopw [14] (fun vi wr => ∃ i : Nat, i ≤ L.length ∧ vi = .int .i64 i ∧ (∀ j, j < i → hasE n (L.getD j 0) = true) ∧ wr = w) (fun vi _ => L.length - (Go.Lib.intOf vi).toNat)
  case atStart => exact ⟨0, Nat.zero_le _, rfl, fun j hj => by omega, rfl⟩
  case round =>
    obtain ⟨i, hi, rfl, hall, rfl⟩ := hrel
    have HA : Hid (∀ j, j < i → hasE n (L.getD j 0) = true) := hall
    clear hall
    by_cases hlt : i < L.length
    · have hiI : (i : Int) < L.length := by omega
      obtain ⟨g, o, rfl, _, hc⟩ := HS.out.int hlt
      have HLT : Hid (i < L.length) := hlt
      obtain ⟨x, hx⟩ : ∃ x, L.getD i 0 = x := ⟨_, rfl⟩
      have HX : Hid (L.getD i 0 = x) := hx
      have hxm : x ∈ L := by
        rw [← hx, List.getD_eq_getElem?_getD, List.getElem?_eq_getElem hlt]
        exact List.getElem_mem hlt
      have HXM : Hid (x ∈ L) := hxm
      rw [hx] at hc
      clear hx hxm hlt
      by_cases h0 : 0 ≤ x
      · have h0d : decide (x < 0) = false := by simpa using h0
        by_cases h1 : x < n
        · have h1d : decide ((n : Int) ≤ x) = false := by simpa using h1
          have h1' : ¬ (n : Int) ≤ x := by omega
          have HH : Hid (hasE n x = true) := decide_eq_true ⟨h0, h1⟩
          go_wp2_with fail
          go_roundw
          case rel =>
            refine ⟨i + 1, HLT.out, by go_num, fun j hj => ?_, trivial⟩
            by_cases e : j = i
            · rw [e, HX.out]; exact HH.out
            · exact HA.out j (by omega)
          case measure => have := HLT.out; simp [Go.Lib.intOf]; omega
        · have h1d : decide ((n : Int) ≤ x) = true := by simpa using h1
          have h1' : (n : Int) ≤ x := by omega
          have HE : Hid (ick n L = 11) := by
            show _ = _
            unfold ick
            rw [if_neg (fun q => ?_)]
            have := of_decide_eq_true (List.all_eq_true.1 q x HXM.out)
            omega
          go_wp2_with fail
          go_ret
          exact ⟨by rw [HE.out]; rfl, rfl⟩
      · have h0d : decide (x < 0) = true := by simpa using h0
        have h0' : x < 0 := by omega
        have HE : Hid (ick n L = 11) := by
          show _ = _
          unfold ick
          rw [if_neg (fun q => ?_)]
          have := of_decide_eq_true (List.all_eq_true.1 q x HXM.out)
          omega
        go_wp2_with fail
        go_ret
        exact ⟨by rw [HE.out]; rfl, rfl⟩
    · have hiI : ¬ (i : Int) < L.length := by omega
      have HE : Hid (ick n L = 0) := by
        show _ = _
        unfold ick
        rw [if_pos]
        rw [List.all_eq_true]
        intro x hx
        obtain ⟨j, hj, rfl⟩ := List.mem_iff_getElem.1 hx
        have := HA.out j (by omega)
        rw [List.getD_eq_getElem?_getD, List.getElem?_eq_getElem hj] at this
        exact this
      go_wp2_with fail
      go_ret
      exact ⟨by rw [HE.out]; rfl, rfl⟩

theorem sr_newZ (w : World) (cs : List Int) (t : Nat) : SR (w.alloc (.cells (zC cs).toArray t)) (some ⟨w.heap.size, 0, none⟩) (zC cs) := by
  intro i u hu
  refine ⟨_, _, rfl, by simp, ?_⟩
  rw [Nat.zero_add, cell_of_row _ _ _ _ _ _ (heap_last w _)]
  simpa using hu

theorem icheck_one {w : World} {ob : Nat} {A : Aut} {M : List (List Nat)} {N : List Nat} (h : MO w ob A M N) (i : Int) :
    Calls Try.prog 21 #[.pointer (some ⟨ob, 0, none⟩), .slice (some ⟨w.heap.size, 0, none⟩) 1 1] (w.alloc (.cells #[.int .i64 i] 3)) fun e w' => e = .returned (.int .i64 (if hasE M.length i = true then 0 else 11)) ∧ w' = w.alloc (.cells #[.int .i64 i] 3) := by
  have q := icheck_any (h.below (below_new _ _)) _ 1 [i] (sr_newZ w [i] 3) (by simp)
  refine q.mono ?_
  rintro e w1 ⟨rfl, rfl⟩
  refine ⟨?_, rfl⟩
  congr 2
  simp [ick]

theorem icheck_none {w : World} {ob : Nat} {A : Aut} {M : List (List Nat)} {N : List Nat} (h : MO w ob A M N) :
    Calls Try.prog 21 #[.pointer (some ⟨ob, 0, none⟩), .slice none 0 0] w fun e w' => e = .returned (.int .i64 0) ∧ w = w' := by
  have q := icheck_any h none 0 [] (SR.nil _ _) (by simp)
  exact q
end Go.Proofs.Ytflclnkaccbfcab

namespace Go.Proofs.Ytflclnkaccbfcab
open Go Go.RowKit Go.Lib Go.Maps
set_option linter.unusedVariables false
attribute [-instance] List.instBEq instBEqProd

/-- The elements of which something is so. -/
def thL (n : Nat) (P : Nat → Bool) : List Nat := (List.range n).filter P

theorem thL_succ (n : Nat) (P : Nat → Bool) : thL (n + 1) P = if P n = true then thL n P ++ [n] else thL n P := by
  unfold thL
  rw [List.range_succ, List.filter_append]
  split <;> simp_all

theorem thL_len (n : Nat) (P : Nat → Bool) : (thL n P).length ≤ n := by
  have := List.length_filter_le P (List.range n)
  simpa [thL] using this

theorem mem_thL {n i : Nat} {P : Nat → Bool} : i ∈ thL n P ↔ i < n ∧ P i = true := by simp [thL]

/-- A list of elements that is the caller's own. -/
def OwnN (w : World) (base : Nat) (v : Value) (L : List Nat) : Prop := w.ownsRow base 3 1 v L.length (nC L)

set_option maxHeartbeats 2000000 in
set_option maxRecDepth 100000 in
theorem those_any {w : World} {ob : Nat} {A : Aut} {M : List (List Nat)} {N : List Nat} (h : MO w ob A M N) (nf : Nat) (fc : Array Value) (P : Nat → Bool)
    (eN : ∀ args w, (callFunc nf args).run Try.prog w = .ok (.enter nf args) w)
    (hN : ∀ y i, Below w.heap.size w y → i < M.length → Calls Try.prog nf (#[.int .i64 (i : Nat)] ++ fc) y fun e y' => e = .returned (.bool (P i)) ∧ Below y.heap.size y y') :
    Calls Try.prog 39 #[.pointer (some ⟨ob, 0, none⟩), .func (.func nf) #[] fc] w fun e w' => ∃ v, e = .returned v ∧ OwnN w' w.heap.size v (thL M.length P) ∧ Below w.heap.size w w' := by
  have HM : Hid (MO w ob A M N) := h
  have HN : Hid (∀ y i, Below w.heap.size w y → i < M.length → Calls Try.prog nf (#[.int .i64 (i : Nat)] ++ fc) y fun e y' => e = .returned (.bool (P i)) ∧ Below y.heap.size y y') := hN
  have hn5 := h.mon.most
  obtain ⟨i0, hi0, hz0, hz1, hz2⟩ := info_parts Try.info_int
  clear h hN
  go_enter Try.func39, Try.ntmps39
  go_wp2_with fail
  refine (mlen_any HM.out).mono ?_
  rintro e w1 ⟨rfl, rfl⟩
  go_wp2_with fail
  go_loopw [5, 9] (fun vo vi wr => ∃ (i : Nat) (oa : Option Addr) (oc : Nat), i ≤ M.length ∧ vi = .int .i64 i ∧ vo = .slice oa (thL i P).length oc ∧ OwnN wr w.heap.size (.slice oa (thL i P).length oc) (thL i P) ∧ Below w.heap.size w wr) (fun _ vi _ => M.length - (Go.Lib.intOf vi).toNat)
  case atStart => exact ⟨0, none, 0, Nat.zero_le _, rfl, rfl, World.ownsRow_nil _ _ _ _, Below.refl _ _⟩
  case round =>
    obtain ⟨i, oa, oc, hi, rfl, rfl, ho, hb⟩ := hrel
    have HO : Hid (OwnN wr w.heap.size (.slice oa (thL i P).length oc) (thL i P)) := ho
    have HB : Hid (Below w.heap.size w wr) := hb
    have hll := thL_len i P
    clear hb ho
    by_cases hlt : i < M.length
    · have hiI : (i : Int) < M.length := by omega
      have HLT : Hid (i < M.length) := hlt
      clear hlt
      go_wp2_with fail
      refine (HN.out wr i HB.out HLT.out).mono ?_
      rintro e w2 ⟨rfl, hb2⟩
      have HB2 : Hid (Below w.heap.size w w2) := go_on HB.out hb2
      have HO2 : Hid (OwnN w2 w.heap.size (.slice oa (thL i P).length oc) (thL i P)) := own_below HO.out hb2
      have hs2 := HB2.out.size
      clear hb2
      cases hP : P i with
      | false =>
        have HT : Hid (thL (i + 1) P = thL i P) := by show _ = _; rw [thL_succ, hP]; rfl
        clear hP
        go_wp2_with fail
        go_roundw
        case rel => exact ⟨i + 1, oa, oc, HLT.out, by go_num, by rw [HT.out], by rw [HT.out]; exact HO2.out, HB2.out⟩
        case measure => have := HLT.out; simp [Go.Lib.intOf]; omega
      | true =>
        have HT : Hid (thL (i + 1) P = thL i P ++ [i]) := by show _ = _; rw [thL_succ, hP]; rfl
        clear hP
        go_wp2_with (first
          | (at_builtin; refine wpList_append_own_at _ rfl _ _ 22 rfl w.heap.size 3 i0 (.int .i64 0) 1 8 Try.underlying22 hi0 hz0 hz1 hz2 rfl (by decide) _ _ _ rfl (World.ownsRow.alloc HO2.out _) ⟨w2.heap.size, 0, none⟩ 1 1 [.int .i64 (i : Int)] rfl rfl (cell_one_new _ _ _) (by intro u hu; simp at hu; subst hu; rfl) (by unfold maxLen; omega) (by omega) (by simp; omega) ?_; intro v' w4 hown' hgrow _ hloc))
        have HB4 : Hid (Below w.heap.size w w4) := (go_on HB2.out (below_new _ _)).grown hgrow (by simp; omega) (fun k hk => (own_blk HO2.out hk).1)
        obtain ⟨oa4, oc4, hsh⟩ := own_shape hown'
        have HO4 : Hid (OwnN w4 w.heap.size v' (thL (i + 1) P)) := by
          show OwnN _ _ _ _
          rw [HT.out]
          unfold OwnN
          rw [nC_append, List.length_append]
          exact hown'
        have HSH : Hid (v' = .slice oa4 (thL (i + 1) P).length oc4) := by show _ = _; rw [HT.out, List.length_append]; exact hsh
        clear hown' hgrow hloc hsh
        go_roundw
        case rel => exact ⟨i + 1, oa4, oc4, HLT.out, by go_num, HSH.out, by have q := HO4.out; rw [HSH.out] at q; exact q, HB4.out⟩
        case measure => have := HLT.out; simp [Go.Lib.intOf]; omega
    · have hiI : ¬ (i : Int) < M.length := by omega
      have e : i = M.length := by omega
      have HE : Hid (i = M.length) := e
      clear e
      go_wp2_with fail
      go_ret
      exact ⟨_, rfl, by rw [← HE.out]; exact HO.out, HB.out⟩

set_option maxHeartbeats 1000000 in
set_option maxRecDepth 100000 in
theorem list1_any {w : World} {ob : Nat} {A : Aut} {M : List (List Nat)} {N : List Nat} (h : MO w ob A M N) (b : Nat) (hc : w.cell? ⟨b, 0, none⟩ = some (.pointer (some ⟨ob, 0, none⟩))) (i : Nat) (hi : i < M.length) :
    Calls Try.prog 40 #[.int .i64 (i : Nat), .pointer (some ⟨b, 0, none⟩)] w fun e w' => e = .returned (.bool (idE A.k.toNat N i)) ∧ Below w.heap.size w w' := by
  have HI : Hid _ := isIdem_any h i hi
  clear h
  go_enter Try.func40, Try.ntmps40
  go_wp2_with fail
  refine Calls.mono HI.out ?_
  rintro e w1 ⟨rfl, hb⟩
  have HB : Hid (Below w.heap.size w w1) := hb
  clear hb
  go_wp2_with fail
  go_ret
  exact ⟨rfl, HB.out⟩

/-- What List answers. -/
def LsQ (L : List Nat) (w : World) (e : Ending) (w' : World) : Prop := ∃ v, e = .returned (.tuple #[v, .int .i64 0]) ∧ OwnN w' w.heap.size v L ∧ Below w.heap.size w w'

set_option maxHeartbeats 1000000 in
set_option maxRecDepth 100000 in
theorem iList_any {w : World} {ob : Nat} {A : Aut} {M : List (List Nat)} {N : List Nat} (h : MO w ob A M N) :
    Calls Try.prog 18 #[.pointer (some ⟨ob, 0, none⟩)] w (LsQ (thL M.length (idE A.k.toNat N)) w) := by
  obtain ⟨w0, hw0⟩ : ∃ w0, w0 = w.alloc (.cells #[.pointer (some ⟨ob, 0, none⟩)] 26) := ⟨_, rfl⟩
  have HB0 : Hid (Below w.heap.size w w0) := by show Below _ _ _; rw [hw0]; exact below_new _ _
  have HM : Hid (MO w0 ob A M N) := h.below HB0.out
  have hc0 : w0.cell? ⟨w.heap.size, 0, none⟩ = some (.pointer (some ⟨ob, 0, none⟩)) := by rw [hw0, cell_of_row _ _ _ _ _ _ (heap_last w _)]; rfl
  have HC0 : Hid (w0.cell? ⟨w.heap.size, 0, none⟩ = some (.pointer (some ⟨ob, 0, none⟩))) := hc0
  have HW0 : Hid (w0 = w.alloc (.cells #[.pointer (some ⟨ob, 0, none⟩)] 26)) := hw0
  have hlt0 : w.heap.size < w0.heap.size := by rw [hw0]; simp
  have HT : Hid (Calls Try.prog 39 #[.pointer (some ⟨ob, 0, none⟩), .func (.func 40) #[] #[.pointer (some ⟨w.heap.size, 0, none⟩)]] w0 fun e w' => ∃ v, e = .returned v ∧ OwnN w' w0.heap.size v (thL M.length (idE A.k.toNat N)) ∧ Below w0.heap.size w0 w') :=
    those_any HM.out 40 _ _ (enters_of Try.func40 (by kernel_rfl) rfl) (fun y i hy hi => list1_any (HM.out.below hy) w.heap.size (by rw [below_cellJ hy hlt0]; exact HC0.out) i hi)
  clear h hw0 hc0
  go_enter Try.func18, Try.ntmps18
  go_wp2_with fail
  rw [← HW0.out]
  have hc0 := HC0.out
  go_wp2_with fail
  refine (icheck_none HM.out).mono ?_
  rintro e w1 ⟨rfl, rfl⟩
  go_wp2_with fail
  refine HT.out.mono ?_
  rintro e w1 ⟨v, rfl, ho, hb⟩
  have HO : Hid (OwnN w1 w.heap.size v (thL M.length (idE A.k.toNat N))) := own_mono ho (by omega)
  have HB : Hid (Below w.heap.size w w1) := go_on HB0.out hb
  clear ho hb hc0
  go_wp2_with fail
  go_ret2
  exact ⟨_, rfl, HO.out, HB.out⟩

/-- What Idempotent answers. -/
def ipV (K n : Nat) (N : List Nat) (i : Int) : Value := if hasE n i = true then .tuple #[.bool (idE K N i.toNat), .int .i64 0] else .tuple #[.bool false, .int .i64 11]

end Go.Proofs.Ytflclnkaccbfcab

namespace Go.Proofs.Ytflclnkaccbfcab
open Go Go.RowKit Go.Shelf Go.Lib
set_option linter.unusedVariables false
attribute [-instance] List.instBEq instBEqProd

attribute [local go_sem] Oper.semAt_some

/-- The values of round j. -/
def pwV (K : Nat) (N : List Nat) (i j : Nat) : Array Value := #[.int .i64 (j : Nat), .int .i64 (pwN K N i j : Nat)]

theorem powers_any (ob : Nat) (i : Int) (w : World) : Calls Try.prog 42 #[.pointer (some ⟨ob, 0, none⟩), .int .i64 i] w fun e w' => e = .returned (.func (.func 53) #[] #[.pointer (some ⟨w.heap.size, 0, none⟩), .pointer (some ⟨w.heap.size + 1, 0, none⟩)]) ∧ w' = (w.alloc (.cells #[.pointer (some ⟨ob, 0, none⟩)] 26)).alloc (.cells #[.int .i64 i] 3) := by
  go_enter Try.func42, Try.ntmps42
  go_wp2_with fail
  go_ret
  exact ⟨rfl, rfl⟩

set_option maxRecDepth 100000 in
set_option maxHeartbeats 2000000 in
theorem powers_at (n : Nat) (hn : 1 ≤ n) (b1 b2 ob i : Nat) (A : Aut) (M : List (List Nat)) (N : List Nat) (S : Nat → Prop) (w : World) (hMO : ∀ W, KS S w W → MO W ob A M N) (hi : i < M.length) (h1 : w.cell? ⟨b1, 0, none⟩ = some (.pointer (some ⟨ob, 0, none⟩))) (h2 : w.cell? ⟨b2, 0, none⟩ = some (.int .i64 (i : Nat))) (s1 : S b1) (s2 : S b2) (hS : ∀ b, S b → b < w.heap.size) :
    IterS Fence.wide n Try.prog 53 #[.pointer (some ⟨b1, 0, none⟩), .pointer (some ⟨b2, 0, none⟩)] (pwV A.k.toNat N i) S (M.length + 1) w := by
  intro l J Jx W hW hY hJ h0
  have HM : Hid (∀ W, KS S w W → MO W ob A M N) := hMO
  have hmon := (hMO w (KS.refl _ _)).mon
  have hms := hmon.most
  have HMon : Hid (Mon A M N) := hmon
  have HS : Hid (∀ b, S b → b < w.heap.size) := hS
  have HC : Hid (∀ W', KS S w W' → W'.cell? ⟨b1, 0, none⟩ = some (.pointer (some ⟨ob, 0, none⟩)) ∧ W'.cell? ⟨b2, 0, none⟩ = some (.int .i64 (i : Nat))) := fun W' hk => by
    exact ⟨by rw [World.cell?_of_block (a := ⟨b1, 0, none⟩) (hk.block b1 s1)]; exact h1, by rw [World.cell?_of_block (a := ⟨b2, 0, none⟩) (hk.block b2 s2)]; exact h2⟩
  have HY : Hid _ := hY
  have HJ : Hid (∀ j W1 W', J j W1 → Below W1.heap.size W1 W' → J j W') := hJ
  have H0 : Hid (J 0 W) := h0
  have HW : Hid (KS S w W) := hW
  have hx0 := (HC.out W hW).1
  clear hY h0 h1 h2 hW hJ hMO hmon hS s1 s2
  refine callsIn_of_wp Try.func53 rfl trivial ?_ rfl
  simp only [Try.ntmps53, List.size_toArray, List.length_cons, List.length_nil, Nat.reduceAdd, Nat.reduceSub, Array.replicate_succ, Array.replicate_zero, List.push_toArray, List.append_toArray, List.nil_append, List.cons_append]
  gi_wp2
  refine ⟨trivial, ?_⟩
  refine (callsIn_wide.2 (mlen_any (HM.out W HW.out))).mono ?_
  rintro e w1 ⟨rfl, rfl⟩
  have hwr : IntKind.i64.wrap ((M.length : Int) + 1) = (M.length : Int) + 1 := by rw [IntKind.wrap_i64]; omega
  clear hx0
  gi_wp2
  gi_loopw [4, 9] (fun vp vi wr => ∃ j : Nat, j ≤ M.length + 1 ∧ vi = .int .i64 (j : Nat) ∧ vp = .int .i64 (pwN A.k.toNat N i j : Nat) ∧ J j wr ∧ KS S w wr) (fun _ vi _ => M.length + 1 - (Go.Lib.intOf vi).toNat)
  case atStart => exact ⟨0, Nat.zero_le _, rfl, rfl, H0.out, HW.out⟩
  case round =>
    obtain ⟨j, hj, rfl, rfl, hJj, hK⟩ := hrel
    have HJj : Hid (J j wr) := hJj
    have HK : Hid (KS S w wr) := hK
    clear hJj hK
    by_cases hlt : j < M.length + 1
    · have hjI : (j : Int) < (M.length : Int) + 1 := by omega
      obtain ⟨fn, tmps, assign, body, hy, hR⟩ := HY.out j wr hlt HJj.out HK.out
      unfold pwV at hy
      obtain ⟨p, hp⟩ : ∃ p, pwN A.k.toNat N i j = p := ⟨_, rfl⟩
      have HP : Hid (pr A.k.toNat N p i = pwN A.k.toNat N i (j + 1)) := by show _ = _; rw [pwN_succ, hp]
      have hpl : p < M.length := by rw [← hp]; exact HMon.out.pw_lt hi j
      rw [hp] at hy ⊢
      have HR : Hid (RoundIn Fence.wide (n - 1) Try.prog l fn tmps assign body wr _) := hR
      have HLT : Hid (j < M.length + 1) := hlt
      clear hR hp hlt
      gi_wp2
      refine HR.out.mono ?_
      clear HR hy
      rintro e W3 (⟨rfl, hJ3, hk3⟩ | ⟨rfl, hJx3⟩)
      · have HJ3 : Hid (J (j + 1) W3) := hJ3
        have HK3 : Hid (KS S w W3) := HK.out.trans hk3
        have hc := HC.out W3 HK3.out
        have hc1 := hc.1
        have hc2 := hc.2
        clear hJ3 hk3 hc
        gi_wp2
        refine ⟨trivial, ?_⟩
        refine (callsIn_wide.2 (iprod_two (HM.out W3 HK3.out) p i hpl hi)).mono ?_
        rintro e W4 ⟨rfl, hb4⟩
        rw [HP.out]
        have HJ4 : Hid (J (j + 1) W4) := HJ.out _ _ _ HJ3.out hb4
        have HK4 : Hid (KS S w W4) := HK3.out.trans (KS.below (fun b hb => Nat.lt_of_lt_of_le (HS.out b hb) HK3.out.size) hb4)
        clear hb4 hc1 hc2
        gi_wp2
        go_roundw
        case rel => exact ⟨j + 1, HLT.out, by go_num, rfl, HJ4.out, HK4.out⟩
        case measure => have := HLT.out; simp [Go.Lib.intOf]; omega
      · have HJx3 : Hid _ := hJx3
        clear hJx3
        gi_wp2
        refine bodyPost_ret (results_none rfl _ _ _) rfl ?_
        exact ⟨⟨_, rfl⟩, .inr HJx3.out⟩
    · have hjI : ¬ (j : Int) < (M.length : Int) + 1 := by omega
      have HE : Hid (j = M.length + 1) := by show _ = _; omega
      gi_wp2
      go_end0
      refine ⟨⟨_, rfl⟩, .inl ?_⟩
      rw [← HE.out]
      exact HJj.out
end Go.Proofs.Ytflclnkaccbfcab
