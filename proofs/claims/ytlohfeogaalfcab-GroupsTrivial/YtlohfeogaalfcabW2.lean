/- E36 E63 E66 E47 E48 E71 E72 E73 E49 E45 E37, in one text. -/
import Derived.Test.YtlohfeogaalfcabW1
import Derived.Deep.LoopGhost
import Derived.Test.YtlohfeogaalfcabRk
import Derived.RangeFuncCalls
import Derived.Lib.SliceRun
import Derived.RegionIn
import Derived.Laws.Bits64b
namespace Go.Proofs.Ytlohfeogaalfcab
open Go Go.RowKit Go.Lib Go.Maps
set_option linter.unusedVariables false
attribute [-instance] List.instBEq instBEqProd

theorem ib_get {l : List Nat} {j : Nat} (hj : j < (ib l).size) (hx : ∀ x ∈ l, x < 256) : ((ib l)[j]).toNat = im l j := by
  have hj' : j < ((l.map fun s => UInt8.ofNat s).toArray).size := hj
  have hl : j < l.length := by simpa using hj'
  have : (ib l)[j].toNat = (((l.map fun s => UInt8.ofNat s).toArray)[j]'hj').toNat := rfl
  refine this.trans ?_
  rw [List.getElem_toArray, List.getElem_map, UInt8.toNat_ofNat', Nat.mod_eq_of_lt (hx _ (List.getElem_mem hl))]
  unfold im
  rw [List.getD_eq_getElem?_getD, List.getElem?_eq_getElem hl]
  rfl

theorem Mon.byte {A : Aut} {M : List (List Nat)} {N : List Nat} (h : Mon A M N) {i : Nat} (hi : i < M.length) : (M.getD i []).length = A.ac.length ∧ (∀ x ∈ M.getD i [], x < A.ac.length) ∧ A.ac.length ≤ 64 := by
  have he := List.getElem?_eq_getElem hi
  rw [getD_of he]
  obtain ⟨t1, t2⟩ := h.tf he
  refine ⟨t2, fun x hx => ?_, h.n64⟩
  obtain ⟨p, hp⟩ := List.mem_iff_getElem?.1 hx
  have hpl := (List.getElem?_eq_some_iff.1 hp).1
  have := t1.lt p hpl
  unfold im at this
  rw [getD_of hp] at this
  omega

/-- The power by squaring: o times i^n. -/
def pwE (K : Nat) (N : List Nat) (o i n : Nat) : Nat := if h : n = 0 then o else pwE K N (if n % 2 = 1 then pr K N o i else o) (pr K N i i) (n / 2)
termination_by n
decreasing_by omega

theorem pwE_zero (K : Nat) (N : List Nat) (o i : Nat) : pwE K N o i 0 = o := by rw [pwE, dif_pos rfl]

theorem pwE_odd {K : Nat} {N : List Nat} {o i n : Nat} (h : n % 2 = 1) : pwE K N o i n = pwE K N (pr K N o i) (pr K N i i) (n / 2) := by rw [pwE, dif_neg (by omega), if_pos h]

theorem pwE_even {K : Nat} {N : List Nat} {o i n : Nat} (h0 : n ≠ 0) (h : n % 2 ≠ 1) : pwE K N o i n = pwE K N o (pr K N i i) (n / 2) := by rw [pwE, dif_neg h0, if_neg h]

end Go.Proofs.Ytlohfeogaalfcab

namespace Go.Proofs.Ytlohfeogaalfcab
open Go Go.RowKit Go.Lib Go.Maps
set_option linter.unusedVariables false
attribute [-instance] List.instBEq instBEqProd

theorem RF.mon {w : World} {rb : Nat} {A : Aut} {M : List (List Nat)} {N : List Nat} (h : RF w rb A M N) : Mon A M N := by
  obtain ⟨an, cn, aa, ca, gi, ci, gw, cw, gn, cg, h⟩ := h
  exact h.mon

theorem hasE_yes {n i : Nat} (h : i < n) : hasE n (i : Int) = true := decide_eq_true ⟨by omega, by omega⟩

end Go.Proofs.Ytlohfeogaalfcab

namespace Go.Proofs.Ytlohfeogaalfcab
open Go Go.RowKit Go.Lib Go.Maps
set_option linter.unusedVariables false
attribute [-instance] List.instBEq instBEqProd

/-- What checkIdempotents answers. -/
def icV (K n : Nat) (N : List Nat) (L : List Int) : Int := if L.all (hasE n) = true then (if L.all (fun x => idE K N x.toNat) = true then 0 else 160) else 11

set_option maxHeartbeats 2000000 in
set_option maxRecDepth 100000 in
theorem icheckI_any {w : World} {ob : Nat} {A : Aut} {M : List (List Nat)} {N : List Nat} (h : MO w ob A M N) (a : Option Addr) (cap : Nat) (L : List Int) (hS : SR w a (zC L)) (hm : L.length ≤ 9223372036854775806) :
    Calls Try.prog 60 #[.pointer (some ⟨ob, 0, none⟩), .slice a L.length cap] w fun e w' => e = .returned (.int .i64 (icV A.k.toNat M.length N L)) ∧ Below w.heap.size w w' := by
  have HM : Hid (MO w ob A M N) := h
  have HS : Hid (SR w a (zC L)) := hS
  have HC0 := icheck_any h a cap L hS hm
  unfold ick at HC0
  by_cases hall : L.all (hasE M.length) = true
  · rw [if_pos hall] at HC0
    have HC : Hid _ := HC0
    have HV : Hid (icV A.k.toNat M.length N L = if L.all (fun x => idE A.k.toNat N x.toNat) = true then 0 else 160) := by show _ = _; unfold icV; rw [if_pos hall]
    have HA : Hid (∀ x ∈ L, hasE M.length x = true) := List.all_eq_true.1 hall
    clear h hS HC0 hall
    go_enter Try.func60, Try.ntmps60
    go_wp2_with fail
    refine Calls.mono HC.out ?_
    rintro e w1 ⟨rfl, rfl⟩
    go_wp2_with fail
    go_loopw [16] (fun vi wr => ∃ i : Nat, i ≤ L.length ∧ vi = .int .i64 (i : Nat) ∧ (∀ j, j < i → idE A.k.toNat N (L.getD j 0).toNat = true) ∧ Below w.heap.size w wr) (fun vi _ => L.length - (Go.RowKit.intOf vi).toNat)
    case atStart => exact ⟨0, Nat.zero_le _, rfl, fun j hj => by omega, Below.refl _ _⟩
    case round =>
      obtain ⟨i, hi, rfl, hj, hb⟩ := hrel
      have HB : Hid (Below w.heap.size w wr) := hb
      have HJ : Hid (∀ j, j < i → idE A.k.toNat N (L.getD j 0).toNat = true) := hj
      clear hj
      by_cases hlt : i < L.length
      · have hiI : (i : Int) < L.length := by omega
        obtain ⟨g, o, rfl, _, hc⟩ := (HS.out.stay hb).int hlt
        obtain ⟨x, hx, hxl⟩ := hasE_of (HA.out (L.getD i 0) (by rw [List.getD_eq_getElem?_getD, List.getElem?_eq_getElem hlt]; exact List.getElem_mem hlt))
        have HX : Hid (L.getD i 0 = (x : Nat)) := hx
        rw [hx] at hc
        have HI : Hid _ := isIdem_any (HM.out.below HB.out) x hxl
        have HLT : Hid (i < L.length) := hlt
        clear hb hx hlt hxl
        cases hid : idE A.k.toNat N x with
        | true =>
          have HN : Hid (∀ j, j < i + 1 → idE A.k.toNat N (L.getD j 0).toNat = true) := fun j hj => by
            by_cases e : j = i
            · subst e; rw [HX.out, Int.toNat_natCast]; exact hid
            · exact HJ.out j (by omega)
          rw [hid] at HI
          clear hid
          go_wp2_with fail
          refine Calls.mono HI.out ?_
          rintro e w1 ⟨rfl, hb1⟩
          have HB1 : Hid (Below w.heap.size w w1) := go_on HB.out hb1
          clear hb1 hc
          go_wp2_with fail
          go_roundw
          case rel => exact ⟨i + 1, HLT.out, by go_num, HN.out, HB1.out⟩
          case measure => have := HLT.out; simp [Go.RowKit.intOf]; omega
        | false =>
          have HVV : Hid (icV A.k.toNat M.length N L = 160) := by
            show _ = _
            rw [HV.out, if_neg]
            intro q
            have := List.all_eq_true.1 q (L.getD i 0) (by rw [List.getD_eq_getElem?_getD, List.getElem?_eq_getElem HLT.out]; exact List.getElem_mem HLT.out)
            rw [HX.out, Int.toNat_natCast, hid] at this
            cases this
          rw [hid] at HI
          clear hid
          go_wp2_with fail
          refine Calls.mono HI.out ?_
          rintro e w1 ⟨rfl, hb1⟩
          have HB1 : Hid (Below w.heap.size w w1) := go_on HB.out hb1
          clear hb1 hc
          go_wp2_with fail
          go_ret
          exact ⟨by rw [HVV.out]; rfl, HB1.out⟩
      · have hiI : ¬ (i : Int) < L.length := by omega
        have HVV : Hid (icV A.k.toNat M.length N L = 0) := by
          show _ = _
          rw [HV.out, if_pos]
          rw [List.all_eq_true]
          intro y hy
          obtain ⟨p, hp⟩ := List.mem_iff_getElem?.1 hy
          have hpl := (List.getElem?_eq_some_iff.1 hp).1
          have := HJ.out p (by omega)
          rw [List.getD_eq_getElem?_getD, hp] at this
          exact this
        clear hb
        go_wp2_with fail
        go_ret
        exact ⟨by rw [HVV.out]; rfl, HB.out⟩
  · rw [if_neg hall] at HC0
    have HC : Hid _ := HC0
    have HV : Hid (icV A.k.toNat M.length N L = 11) := by show _ = _; unfold icV; rw [if_neg hall]
    clear h hS HC0 hall
    go_enter Try.func60, Try.ntmps60
    go_wp2_with fail
    refine Calls.mono HC.out ?_
    rintro e w1 ⟨rfl, rfl⟩
    go_wp2_with fail
    go_ret
    exact ⟨by rw [HV.out]; rfl, Below.refl _ _⟩

/-- What Regular answers. -/
def rgV (K n : Nat) (N : List Nat) (i : Int) : Value := if hasE n i = true then .tuple #[.bool (rgE K n N i.toNat), .int .i64 0] else .tuple #[.bool false, .int .i64 11]

/-- What a call that tells a list answers. -/
def LsX (L : List Nat) (er : Int) (w : World) (e : Ending) (w' : World) : Prop := ∃ v, e = .returned (.tuple #[v, .int .i64 er]) ∧ OwnN w' w.heap.size v L ∧ Below w.heap.size w w'

/-- Inverses' list and error. -/
def ivL (K n : Nat) (N : List Nat) (i : Int) : List Nat := if hasE n i = true then thL n (inE K N i.toNat) else []

def ivX (n : Nat) (i : Int) : Int := if hasE n i = true then 0 else 11

/-- What Below answers. -/
def blV (K n : Nat) (N : List Nat) (e f : Int) : Value := if icV K n N [e, f] = 0 then .tuple #[.bool (leE K N e.toNat f.toNat), .int .i64 0] else .tuple #[.bool false, .int .i64 (icV K n N [e, f])]

theorem icV_ok2 {K n : Nat} {N : List Nat} {e f : Int} (h : icV K n N [e, f] = 0) : ∃ a b : Nat, e = a ∧ f = b ∧ a < n ∧ b < n ∧ pr K N a a = a ∧ pr K N b b = b := by
  unfold icV at h
  split at h
  · rename_i h1
    split at h
    · rename_i h2
      simp only [List.all_cons, List.all_nil, Bool.and_true, Bool.and_eq_true] at h1 h2
      obtain ⟨a, rfl, ha⟩ := hasE_of h1.1
      obtain ⟨b, rfl, hb⟩ := hasE_of h1.2
      rw [Int.toNat_natCast, Int.toNat_natCast] at h2
      exact ⟨a, b, rfl, rfl, ha, hb, of_decide_eq_true h2.1, of_decide_eq_true h2.2⟩
    · cases h
  · cases h

theorem icV_ok1 {K n : Nat} {N : List Nat} {e : Int} (h : icV K n N [e] = 0) : ∃ a : Nat, e = a ∧ a < n ∧ pr K N a a = a := by
  unfold icV at h
  split at h
  · rename_i h1
    split at h
    · rename_i h2
      simp only [List.all_cons, List.all_nil, Bool.and_true] at h1 h2
      obtain ⟨a, rfl, ha⟩ := hasE_of h1
      rw [Int.toNat_natCast] at h2
      exact ⟨a, rfl, ha, of_decide_eq_true h2⟩
    · cases h
  · cases h

/-- Between's list. -/
def bwL (K n : Nat) (N : List Nat) (e : Int) : List Nat := if icV K n N [e] = 0 then thL n (btE K N e.toNat) else []

set_option maxHeartbeats 2000000 in
set_option maxRecDepth 100000 in
theorem iBetween_all {w : World} {ob : Nat} {A : Aut} {M : List (List Nat)} {N : List Nat} (h : MO w ob A M N) (x : Int) :
    Calls Try.prog 34 #[.pointer (some ⟨ob, 0, none⟩), .int .i64 x] w (LsX (bwL A.k.toNat M.length N x) (icV A.k.toNat M.length N [x]) w) := by
  by_cases hc : icV A.k.toNat M.length N [x] = 0
  · have HV : bwL A.k.toNat M.length N x = thL M.length (btE A.k.toNat N x.toNat) := by unfold bwL; rw [if_pos hc]
    rw [HV, hc]
    obtain ⟨a, rfl, ha, haa⟩ := icV_ok1 hc
    exact iBetween_ok h a ha haa
  · have HV : bwL A.k.toNat M.length N x = [] := by unfold bwL; rw [if_neg hc]
    rw [HV]
    obtain ⟨E, hE⟩ : ∃ E, icV A.k.toNat M.length N [x] = E := ⟨_, rfl⟩
    obtain ⟨w2, hw2⟩ : ∃ w2, w2 = (w.alloc (.cells #[.pointer (some ⟨ob, 0, none⟩)] 26)).alloc (.cells #[.int .i64 x] 3) := ⟨_, rfl⟩
    have HB2 : Hid (Below w.heap.size w w2) := by show Below _ _ _; rw [hw2]; exact go_on (below_new _ _) (below_new _ _)
    have HW2 : Hid (w2 = (w.alloc (.cells #[.pointer (some ⟨ob, 0, none⟩)] 26)).alloc (.cells #[.int .i64 x] 3)) := hw2
    have hz2 : w2.heap.size = w.heap.size + 2 := by rw [hw2]; simp
    have HC : Hid (Calls Try.prog 60 #[.pointer (some ⟨ob, 0, none⟩), .slice (some ⟨w.heap.size + 2, 0, none⟩) 1 1] (w2.alloc (.cells #[.int .i64 x] 3)) fun e w' => e = .returned (.int .i64 E) ∧ Below (w2.alloc (.cells #[.int .i64 x] 3)).heap.size (w2.alloc (.cells #[.int .i64 x] 3)) w') := by
      have q := icheckI_any ((h.below HB2.out).below (below_new w2 (.cells #[.int .i64 x] 3))) (some ⟨w2.heap.size, 0, none⟩) 1 [x] (sr_newZ w2 [x] 3) (by simp)
      rw [hE, hz2] at q
      exact q
    have HB3 : Hid (Below w.heap.size w (w2.alloc (.cells #[.int .i64 x] 3))) := go_on HB2.out (below_new _ _)
    have c0 : w2.cell? ⟨w.heap.size, 0, none⟩ = some (.pointer (some ⟨ob, 0, none⟩)) := by
      have e : w2.heap[w.heap.size]? = some (.cells #[.pointer (some ⟨ob, 0, none⟩)] 26 (0, 0)) := by rw [hw2, heap_allo (by simp)]; exact heap_last _ _
      exact cell_at e rfl
    have c1 : w2.cell? ⟨w.heap.size + 1, 0, none⟩ = some (.int .i64 x) := by
      have e : w2.heap[w.heap.size + 1]? = some (.cells #[.int .i64 x] 3 (0, 0)) := by
        rw [hw2]
        have := heap_last (w.alloc (.cells #[.pointer (some ⟨ob, 0, none⟩)] 26)) (.cells #[.int .i64 x] 3)
        rwa [World.size_alloc] at this
      exact cell_at e rfl
    rw [hE] at hc ⊢
    have hq0 : (E != 0) = true := by rw [bne_iff_ne]; exact hc
    clear h hc hw2 hz2 hE HV
    go_enter Try.func34, Try.ntmps34
    go_wp2_with fail
    rw [← HW2.out]
    refine HC.out.mono ?_
    rintro e w3 ⟨rfl, hb⟩
    have HB4 : Hid (Below w.heap.size w w3) := go_on HB3.out hb
    clear hb c0 c1
    go_wp2_with fail
    go_ret2
    exact ⟨_, rfl, World.ownsRow_nil _ _ _ _, HB4.out⟩

end Go.Proofs.Ytlohfeogaalfcab

namespace Go.Proofs.Ytlohfeogaalfcab
open Go Go.RowKit Go.Shelf Go.Lib
set_option linter.unusedVariables false
attribute [-instance] List.instBEq instBEqProd

attribute [local go_sem] Oper.semAt_some

/-- The values of round j. -/
def pwV (K : Nat) (N : List Nat) (i j : Nat) : Array Value := #[.int .i64 (j : Nat), .int .i64 (pwN K N i j : Nat)]

theorem powers_any (ob : Nat) (i : Int) (w : World) : Calls Try.prog 38 #[.pointer (some ⟨ob, 0, none⟩), .int .i64 i] w fun e w' => e = .returned (.func (.func 63) #[] #[.pointer (some ⟨w.heap.size, 0, none⟩), .pointer (some ⟨w.heap.size + 1, 0, none⟩)]) ∧ w' = (w.alloc (.cells #[.pointer (some ⟨ob, 0, none⟩)] 26)).alloc (.cells #[.int .i64 i] 3) := by
  go_enter Try.func38, Try.ntmps38
  go_wp2_with fail
  go_ret
  exact ⟨rfl, rfl⟩

set_option maxRecDepth 100000 in
set_option maxHeartbeats 2000000 in
theorem powers_at (n : Nat) (hn : 1 ≤ n) (b1 b2 ob i : Nat) (A : Aut) (M : List (List Nat)) (N : List Nat) (S : Nat → Prop) (w : World) (hMO : ∀ W, KS S w W → MO W ob A M N) (hi : i < M.length) (h1 : w.cell? ⟨b1, 0, none⟩ = some (.pointer (some ⟨ob, 0, none⟩))) (h2 : w.cell? ⟨b2, 0, none⟩ = some (.int .i64 (i : Nat))) (s1 : S b1) (s2 : S b2) (hS : ∀ b, S b → b < w.heap.size) :
    IterS Fence.wide n Try.prog 63 #[.pointer (some ⟨b1, 0, none⟩), .pointer (some ⟨b2, 0, none⟩)] (pwV A.k.toNat N i) S (M.length + 1) w := by
  intro l J Jx W hW hY hJ h0
  have HM : Hid (∀ W, KS S w W → MO W ob A M N) := hMO
  have hmon := (hMO w (KS.refl _ _)).mon
  have hms := hmon.most
  have HMon : Hid (Mon A M N) := hmon
  have HS : Hid (∀ b, S b → b < w.heap.size) := hS
  have HC : Hid (∀ W', KS S w W' → W'.cell? ⟨b1, 0, none⟩ = some (.pointer (some ⟨ob, 0, none⟩)) ∧ W'.cell? ⟨b2, 0, none⟩ = some (.int .i64 (i : Nat))) := fun W' hk => by
    exact ⟨by rw [World.cell?_of_block (a := ⟨b1, 0, none⟩) (hk.block b1 s1)]; exact h1, by rw [World.cell?_of_block (a := ⟨b2, 0, none⟩) (hk.block b2 s2)]; exact h2⟩
  have HY : Hid _ := hY
  have HJ : Hid (∀ j W1 W', J j W1 → Below W1.heap.size W1 W' → J j W') := hJ
  have H0 : Hid (J 0 W) := h0
  have HW : Hid (KS S w W) := hW
  have hx0 := (HC.out W hW).1
  clear hY h0 h1 h2 hW hJ hMO hmon hS s1 s2
  refine callsIn_of_wp Try.func63 rfl trivial ?_ rfl
  simp only [Try.ntmps63, List.size_toArray, List.length_cons, List.length_nil, Nat.reduceAdd, Nat.reduceSub, Array.replicate_succ, Array.replicate_zero, List.push_toArray, List.append_toArray, List.nil_append, List.cons_append]
  gi_wp2
  refine ⟨trivial, ?_⟩
  refine (callsIn_wide.2 (mlen_any (HM.out W HW.out))).mono ?_
  rintro e w1 ⟨rfl, rfl⟩
  have hwr : IntKind.i64.wrap ((M.length : Int) + 1) = (M.length : Int) + 1 := by rw [IntKind.wrap_i64]; omega
  clear hx0
  gi_wp2
  gi_loopw [4, 9] (fun vp vi wr => ∃ j : Nat, j ≤ M.length + 1 ∧ vi = .int .i64 (j : Nat) ∧ vp = .int .i64 (pwN A.k.toNat N i j : Nat) ∧ J j wr ∧ KS S w wr) (fun _ vi _ => M.length + 1 - (Go.RowKit.intOf vi).toNat)
  case atStart => exact ⟨0, Nat.zero_le _, rfl, rfl, H0.out, HW.out⟩
  case round =>
    obtain ⟨j, hj, rfl, rfl, hJj, hK⟩ := hrel
    have HJj : Hid (J j wr) := hJj
    have HK : Hid (KS S w wr) := hK
    clear hJj hK
    by_cases hlt : j < M.length + 1
    · have hjI : (j : Int) < (M.length : Int) + 1 := by omega
      obtain ⟨fn, tmps, assign, body, hy, hR⟩ := HY.out j wr hlt HJj.out HK.out
      unfold pwV at hy
      obtain ⟨p, hp⟩ : ∃ p, pwN A.k.toNat N i j = p := ⟨_, rfl⟩
      have HP : Hid (pr A.k.toNat N p i = pwN A.k.toNat N i (j + 1)) := by show _ = _; rw [pwN_succ, hp]
      have hpl : p < M.length := by rw [← hp]; exact HMon.out.pw_lt hi j
      rw [hp] at hy ⊢
      have HR : Hid (RoundIn Fence.wide (n - 1) Try.prog l fn tmps assign body wr _) := hR
      have HLT : Hid (j < M.length + 1) := hlt
      clear hR hp hlt
      gi_wp2
      refine HR.out.mono ?_
      clear HR hy
      rintro e W3 (⟨rfl, hJ3, hk3⟩ | ⟨rfl, hJx3⟩)
      · have HJ3 : Hid (J (j + 1) W3) := hJ3
        have HK3 : Hid (KS S w W3) := HK.out.trans hk3
        have hc := HC.out W3 HK3.out
        have hc1 := hc.1
        have hc2 := hc.2
        clear hJ3 hk3 hc
        gi_wp2
        refine ⟨trivial, ?_⟩
        refine (callsIn_wide.2 (iprod_two (HM.out W3 HK3.out) p i hpl hi)).mono ?_
        rintro e W4 ⟨rfl, hb4⟩
        rw [HP.out]
        have HJ4 : Hid (J (j + 1) W4) := HJ.out _ _ _ HJ3.out hb4
        have HK4 : Hid (KS S w W4) := HK3.out.trans (KS.below (fun b hb => Nat.lt_of_lt_of_le (HS.out b hb) HK3.out.size) hb4)
        clear hb4 hc1 hc2
        gi_wp2
        go_roundw
        case rel => exact ⟨j + 1, HLT.out, by go_num, rfl, HJ4.out, HK4.out⟩
        case measure => have := HLT.out; simp [Go.RowKit.intOf]; omega
      · have HJx3 : Hid _ := hJx3
        clear hJx3
        gi_wp2
        refine bodyPost_ret (results_none rfl _ _ _) rfl ?_
        exact ⟨⟨_, rfl⟩, .inr HJx3.out⟩
    · have hjI : ¬ (j : Int) < (M.length : Int) + 1 := by omega
      have HE : Hid (j = M.length + 1) := by show _ = _; omega
      gi_wp2
      go_end0
      refine ⟨⟨_, rfl⟩, .inl ?_⟩
      rw [← HE.out]
      exact HJj.out
end Go.Proofs.Ytlohfeogaalfcab

namespace Go.Proofs.Ytlohfeogaalfcab
open Go Go.RowKit Go.Shelf Go.Lib
set_option linter.unusedVariables false
attribute [-instance] List.instBEq instBEqProd

attribute [local go_sem] Oper.semAt_some

set_option maxHeartbeats 1000000 in
set_option maxRecDepth 100000 in
theorem omega_not {w : World} {ob : Nat} {A : Aut} {M : List (List Nat)} {N : List Nat} (h : MO w ob A M N) (i : Int) (hi : ¬ hasE M.length i = true) :
    Calls Try.prog 37 #[.pointer (some ⟨ob, 0, none⟩), .int .i64 i] w fun e w' => e = .returned (.tuple #[.int .i64 0, .int .i64 11]) ∧ Below w.heap.size w w' := by
  obtain ⟨w0, hw0⟩ : ∃ w0, w0 = w.alloc (.cells #[.pointer (some ⟨ob, 0, none⟩)] 26) := ⟨_, rfl⟩
  have HB0 : Hid (Below w.heap.size w w0) := by show Below _ _ _; rw [hw0]; exact below_new _ _
  have HM : Hid (MO w0 ob A M N) := h.below HB0.out
  have HW0 : Hid (w0 = w.alloc (.cells #[.pointer (some ⟨ob, 0, none⟩)] 26)) := hw0
  have HC0 : Hid (w0.cell? ⟨w.heap.size, 0, none⟩ = some (.pointer (some ⟨ob, 0, none⟩))) := by show _ = _; rw [hw0, cell_of_row _ _ _ _ _ _ (heap_last w _)]; rfl
  have HZ0 : Hid (w0.heap.size = w.heap.size + 1) := by show _ = _; rw [hw0]; simp
  have HC : Hid _ := icheck_one HM.out i
  rw [if_neg hi, HZ0.out] at HC
  have HB1 : Hid (Below w.heap.size w (w0.alloc (.cells #[.int .i64 i] 3))) := go_on HB0.out (below_new _ _)
  clear h hw0 hi
  go_enter Try.func37, Try.ntmps37
  go_wp2_with fail
  rw [← HW0.out]
  refine Calls.mono HC.out ?_
  rintro e w1 ⟨rfl, rfl⟩
  go_wp2_with fail
  go_ret2
  exact ⟨rfl, HB1.out⟩

theorem frz_at {w : World} {b o : Nat} {cs : Array Value} {t : TypeId} (h : w.heap[b]? = some (.cells cs t (0, 0))) : w.frozen? ⟨b, o, none⟩ = false := by
  simp [World.frozen?, h]

theorem KS.grown {S : Nat → Prop} {W W1 W2 : World} {row : Option Nat} (h : KS S W W1) (hg : W1.grownBy W2 row) (hr : ∀ k, row = some k → ¬ S k) (hl : ∀ b, S b → b < W1.heap.size) : KS S W W2 :=
  ⟨hg.os.trans h.os, hg.tape.trans h.tape, hg.output.trans h.output, Nat.le_trans h.size hg.size, fun b hb => (hg.block b (hl b hb) (fun e => hr b e.symm hb)).trans (h.block b hb)⟩

theorem KS.set {S : Nat → Prop} {W W1 : World} {m o : Nat} {v : Value} (h : KS S W W1) (hp : ¬ S m) : KS S W (W1.setCell ⟨m, o, none⟩ v) :=
  ⟨h.os, h.tape, h.output, by simpa [World.setCell] using h.size, fun b hb => (heap_set_other (fun e => by subst e; exact hp hb)).trans (h.block b hb)⟩

theorem KS.base {S : Nat → Prop} {w U W : World} (h : KS S U W) (hb : Below w.heap.size w U) (hS : ∀ b, b < w.heap.size → S b) : Below w.heap.size w W :=
  ⟨h.os.trans hb.os, h.tape.trans hb.tape, h.output.trans hb.output, Nat.le_trans hb.size h.size, fun b hlt => (h.block b (hS b hlt)).trans (hb.block b hlt)⟩

set_option maxRecDepth 100000 in
set_option maxHeartbeats 4000000 in
theorem omega_in (n : Nat) (hn : 3 ≤ n) {w : World} {ob : Nat} {A : Aut} {M : List (List Nat)} {N : List Nat} (h : MO w ob A M N) (i : Nat) (hi : i < M.length) :
    CallsIn Fence.wide n Try.prog 37 #[.pointer (some ⟨ob, 0, none⟩), .int .i64 i] w fun e w' => (∃ x, e = .returned (.tuple #[.int .i64 (x : Nat), .int .i64 0]) ∧ OmQ A.k.toNat N i x) ∧ Below w.heap.size w w' := by
  have h1 : 1 ≤ n := by omega
  obtain ⟨w0, hw0⟩ : ∃ w0, w0 = w.alloc (.cells #[.pointer (some ⟨ob, 0, none⟩)] 26) := ⟨_, rfl⟩
  have HB0 : Hid (Below w.heap.size w w0) := by show Below _ _ _; rw [hw0]; exact below_new _ _
  have HM0 : Hid (MO w ob A M N) := h
  have HM : Hid (MO w0 ob A M N) := h.below HB0.out
  have HMon : Hid (Mon A M N) := h.mon
  have HW0 : Hid (w0 = w.alloc (.cells #[.pointer (some ⟨ob, 0, none⟩)] 26)) := hw0
  have HC0 : Hid (w0.cell? ⟨w.heap.size, 0, none⟩ = some (.pointer (some ⟨ob, 0, none⟩))) := by show _ = _; rw [hw0, cell_of_row _ _ _ _ _ _ (heap_last w _)]; rfl
  have HZ0 : Hid (w0.heap.size = w.heap.size + 1) := by show _ = _; rw [hw0]; simp
  have HC : Hid _ := icheck_one HM.out i
  rw [if_pos (show hasE M.length (i : Int) = true from decide_eq_true ⟨by omega, by omega⟩), HZ0.out] at HC
  have HB1 : Hid (Below w.heap.size w (w0.alloc (.cells #[.int .i64 i] 3))) := go_on HB0.out (below_new _ _)
  clear h hw0
  refine callsIn_of_wp_marks Try.func37 rfl trivial ?_ rfl
  simp only [Try.ntmps37, List.size_toArray, List.length_cons, List.length_nil, Nat.reduceAdd, Nat.reduceSub, Array.replicate_succ, Array.replicate_zero, List.push_toArray, List.append_toArray, List.nil_append, List.cons_append]
  gi_wp2
  rw [← HW0.out]
  refine ⟨trivial, ?_⟩
  refine (callsIn_wide.2 HC.out).mono ?_
  rintro e w1 ⟨rfl, rfl⟩
  obtain ⟨w1, hw1⟩ : ∃ w1, w1 = w0.alloc (.cells #[.int .i64 (i : Int)] 3) := ⟨_, rfl⟩
  rw [← hw1] at HB1 ⊢
  have hz1 : w1.heap.size = w.heap.size + 2 := by rw [hw1, World.size_alloc, HZ0.out]
  have hc1 : w1.cell? ⟨w.heap.size, 0, none⟩ = some (.pointer (some ⟨ob, 0, none⟩)) := by rw [hw1, below_cellJ (below_new w0 _) (by rw [HZ0.out]; omega)]; exact HC0.out
  have hcA : (w1.alloc (.cells #[.int .i64 0] 3)).cell? ⟨w.heap.size, 0, none⟩ = some (.pointer (some ⟨ob, 0, none⟩)) := by rw [below_cellJ (below_new w1 _) (by rw [hz1]; omega)]; exact hc1
  have HZ1 : Hid (w1.heap.size = w.heap.size + 2) := hz1
  have HC1 : Hid (w1.cell? ⟨w.heap.size, 0, none⟩ = some (.pointer (some ⟨ob, 0, none⟩))) := hc1
  clear hw1 hz1 hc1
  gi_wp2
  refine ⟨trivial, ?_⟩
  refine (callsIn_wide.2 (powers_any _ _ _)).mono ?_
  rintro e w3 ⟨rfl, rfl⟩
  clear hcA
  gi_wp2
  obtain ⟨q, hq⟩ : ∃ q, w1.heap.size = q := ⟨_, rfl⟩
  have hz1 := HZ1.out
  obtain ⟨U, hU⟩ : ∃ U, U = ((w1.alloc (.cells #[.int .i64 0] 3)).alloc (.cells #[.pointer (some ⟨ob, 0, none⟩)] 26)).alloc (.cells #[.int .i64 (i : Int)] 3) := ⟨_, rfl⟩
  have hUs : U.heap.size = q + 3 := by rw [hU]; simp [hq]
  have hBU : Below w.heap.size w U := by
    rw [hU]
    exact go_on (go_on (go_on HB1.out (below_new _ _)) (below_new _ _)) (below_new _ _)
  have HU0 : Hid (U.heap[q]? = some (.cells #[.int .i64 0] 3 (0, 0))) := by
    show _ = _
    rw [hU, heap_allo (by simp; omega), heap_allo (by simp; omega), ← hq]
    exact heap_last _ _
  have HU1 : Hid (U.cell? ⟨q + 1, 0, none⟩ = some (.pointer (some ⟨ob, 0, none⟩))) := by
    show _ = _
    have e : U.heap[q + 1]? = some (.cells #[.pointer (some ⟨ob, 0, none⟩)] 26 (0, 0)) := by
      rw [hU, heap_allo (by simp; omega)]
      have := heap_last (w1.alloc (.cells #[.int .i64 0] 3)) (.cells #[.pointer (some ⟨ob, 0, none⟩)] 26)
      rwa [World.size_alloc, hq] at this
    exact cell_at e rfl
  have HU2 : Hid (U.cell? ⟨q + 2, 0, none⟩ = some (.int .i64 (i : Nat))) := by
    show _ = _
    have e : U.heap[q + 2]? = some (.cells #[.int .i64 (i : Nat)] 3 (0, 0)) := by
      rw [hU]
      have := heap_last ((w1.alloc (.cells #[.int .i64 0] 3)).alloc (.cells #[.pointer (some ⟨ob, 0, none⟩)] 26)) (.cells #[.int .i64 (i : Int)] 3)
      rwa [World.size_alloc, World.size_alloc, hq] at this
    exact cell_at e rfl
  have HU3 : Hid (U.cell? ⟨w.heap.size, 0, none⟩ = some (.pointer (some ⟨ob, 0, none⟩))) := by
    show _ = _
    have hb : Below w1.heap.size w1 U := by rw [hU]; exact go_on (go_on (below_new _ _) (below_new _ _)) (below_new _ _)
    rw [below_cellJ hb (by omega)]
    exact HC1.out
  have HBU : Hid (Below w.heap.size w U) := hBU
  rw [← hU]
  rw [hq]
  have hwq : w.heap.size + 2 = q := by omega
  clear hU hBU hz1 hq HZ1 HC1 HB1 HC HC0 HW0 HM HZ0
  refine rangeFunc_brk rfl h1 (gf := 63) (lb := #[.pointer (some ⟨q + 1, 0, none⟩), .pointer (some ⟨q + 2, 0, none⟩)]) rfl trivial (enters_of Try.func63 (by kernel_rfl) rfl)
    (val := pwV A.k.toNat N i) (S := fun b => b < q + 3 ∧ b ≠ q) (N := M.length + 1) (w0 := U) (fun b hb => by omega)
    (powers_at (n - 1) (by omega) (q + 1) (q + 2) ob i A M N _ U (fun W hk => HM0.out.below (hk.base HBU.out (fun b hb => ⟨by omega, by omega⟩))) hi HU1.out HU2.out ⟨by omega, by omega⟩ ⟨by omega, by omega⟩ (fun b hb => by omega)) (KS.refl _ _) (fun _ => rfl) 0
    (fun j W => KS (fun b => b < q + 3 ∧ b ≠ q) U W ∧ W.heap[q]? = some (.cells #[.int .i64 0] 3 (0, 0)) ∧ ∀ k, 1 ≤ k → k < j → ¬ pr A.k.toNat N (pwN A.k.toNat N i k) (pwN A.k.toNat N i k) = pwN A.k.toNat N i k)
    (fun _ W => KS (fun b => b < q + 3 ∧ b ≠ q) U W ∧ ∃ x : Nat, W.heap[q]? = some (.cells #[.int .i64 (x : Int)] 3 (0, 0)) ∧ OmQ A.k.toNat N i x)
    ?own1 ?own2 ?bel ?start (fun j a' W => (KS (fun b => b < q + 3 ∧ b ≠ q) U W ∧ W.heap[q]? = some (.cells #[.int .i64 0] 3 (0, 0)) ∧ ∀ k, 1 ≤ k → k < j → ¬ pr A.k.toNat N (pwN A.k.toNat N i k) (pwN A.k.toNat N i k) = pwN A.k.toNat N i k) ∧ a' = { tmps := #[.pointer (some ⟨ob, 0, none⟩), .int .i64 (i : Nat), .pointer (some ⟨w.heap.size, 0, none⟩), undef, .int .i64 0, .int .i64 0, .int .i64 0, .pointer (some ⟨q, 0, none⟩), .int .i64 (j : Nat), .int .i64 (pwN A.k.toNat N i j : Nat), .pointer (some ⟨ob, 0, none⟩), .int .i64 (i : Nat), .slice (some ⟨w.heap.size + 1, 0, none⟩) 1 1, .int .i64 0, .int .i64 0, .bool false, undef, .pointer (some ⟨ob, 0, none⟩), .int .i64 (i : Nat), .func (.func 63) #[] #[.pointer (some ⟨q + 1, 0, none⟩), .pointer (some ⟨q + 1 + 1, 0, none⟩)], .int .i64 (j : Nat), .int .i64 (pwN A.k.toNat N i j : Nat), undef, undef, undef, undef, undef, undef, undef, undef, undef], defers := [] }) ?own3 ?assign ?body ?done ?stop
  case own1 =>
    rintro j W W' row ⟨hk, hb, hno⟩ hg hr
    have hz := hk.size
    refine ⟨hk.grown hg (fun k e => by have := (hr k e).1; omega) (fun b hb => by omega), ?_, hno⟩
    rw [hg.block q (by omega) (fun e => by have := (hr q e.symm).1; omega)]
    exact hb
  case own2 =>
    rintro j W W' row ⟨hk, x, hb, hx⟩ hg hr
    have hz := hk.size
    refine ⟨hk.grown hg (fun k e => by have := (hr k e).1; omega) (fun b hb => by omega), x, ?_, hx⟩
    rw [hg.block q (by omega) (fun e => by have := (hr q e.symm).1; omega)]
    exact hb
  case bel =>
    rintro j W1 W' hz ⟨hk, hb, hno⟩ hbl
    refine ⟨hk.trans (KS.below (fun b hb => by omega) hbl), ?_, hno⟩
    rw [hbl.block q (by omega)]
    exact hb
  case start => exact ⟨KS.refl _ _, HU0.out, fun k h1 h2 => by omega⟩
  case own3 =>
    rintro j a' _ W W' row ⟨⟨hk, hb, hno⟩, e⟩ hg hr
    have hz := hk.size
    refine ⟨⟨hk.grown hg (fun k e => by have := (hr k e).1; omega) (fun b hb => by omega), ?_, hno⟩, e⟩
    rw [hg.block q (by omega) (fun e => by have := (hr q e.symm).1; omega)]
    exact hb
  case assign =>
    intro l j W K hj hI hks hK
    have HK : Hid _ := hK
    have HI : Hid _ := hI
    unfold pwV
    clear hK hI hks hj
    gi_wp2
    exact HK.out _ _ ⟨Nat.le_refl _, fun k o _ hk ho => hk⟩ (KS.refl _ _) ⟨HI.out, rfl⟩
  case body =>
    rintro l j a' W hj ⟨⟨hk, hb, hno⟩, rfl⟩ hks
    have hz := hk.size
    have HK : Hid (KS (fun b => b < q + 3 ∧ b ≠ q) U W) := hk
    have HBX : Hid (W.heap[q]? = some (.cells #[.int .i64 0] 3 (0, 0))) := hb
    have HNO : Hid (∀ k, 1 ≤ k → k < j → ¬ pr A.k.toNat N (pwN A.k.toNat N i k) (pwN A.k.toNat N i k) = pwN A.k.toNat N i k) := hno
    have HMW : Hid (MO W ob A M N) := HM0.out.below (hk.base HBU.out (fun b hb => ⟨by omega, by omega⟩))
    have hc : W.cell? ⟨w.heap.size, 0, none⟩ = some (.pointer (some ⟨ob, 0, none⟩)) := by
      rw [World.cell?_of_block (a := ⟨w.heap.size, 0, none⟩) (hk.block w.heap.size ⟨by omega, by omega⟩)]; exact HU3.out
    have HLT : Hid (j < M.length + 1) := hj
    clear hk hb hno hks
    by_cases hj0 : j = 0
    · subst hj0
      gi_wp2
      refine ⟨trivial, ?_⟩
      gi_wp2
      refine ⟨⟨Nat.le_refl _, fun k o _ hk ho => hk⟩, KS.refl _ _, HK.out, HBX.out, fun k h1 h2 => by omega⟩
    · have hjI : (0 : Int) < (j : Int) := by omega
      have hjd : decide ((0 : Int) < (j : Int)) = true := decide_eq_true hjI
      obtain ⟨p, hp⟩ : ∃ p, pwN A.k.toNat N i j = p := ⟨_, rfl⟩
      have HP : Hid (pwN A.k.toNat N i j = p) := hp
      have hpl : p < M.length := by rw [← hp]; exact HMon.out.pw_lt hi j
      have HJ1 : Hid (1 ≤ j) := by show 1 ≤ j; omega
      rw [hp]
      clear hp
      gi_wp2
      refine ⟨trivial, fun _ => by omega, ?_⟩
      refine (CallsIn.inRound l (callsIn_wide.2 (isIdem_any HMW.out p hpl))).mono ?_
      rintro e W3 ⟨rfl, hb3⟩
      have HK3 : Hid (KS (fun b => b < q + 3 ∧ b ≠ q) W W3) := KS.below (fun b hb => by omega) hb3
      have HKF : Hid (KeepsFrom U.heap.size W W3) := ⟨hb3.size, fun k o _ hk ho => (hb3.block k (Array.getElem?_eq_some_iff.1 hk).1).trans hk⟩
      have HBX3 : Hid (W3.heap[q]? = some (.cells #[.int .i64 0] 3 (0, 0))) := by show _ = _; rw [hb3.block q (by omega)]; exact HBX.out
      clear hb3 hc
      by_cases hid : pr A.k.toNat N p p = p
      · have hE : idE A.k.toNat N p = true := decide_eq_true hid
        have HOM : Hid (OmQ A.k.toNat N i p) := ⟨j, HJ1.out, HP.out, hid⟩
        rw [hE]
        have hcq : W3.cell? ⟨q, 0, none⟩ = some (.int .i64 0) := cell_at HBX3.out rfl
        have hfq : W3.frozen? ⟨q, 0, none⟩ = false := frz_at HBX3.out
        clear hid hE
        gi_wp2
        refine ⟨rfl, ?_, ?_⟩
        · refine ⟨Nat.le_trans HKF.out.1 (by simp [World.setCell]), fun k o hk1 hk ho => ?_⟩
          rw [heap_set_other (fun e => by omega)]
          exact HKF.out.2 k o hk1 hk ho
        · exact ⟨(HK.out.trans HK3.out).set (by omega), p, heap_set HBX3.out, HOM.out⟩
      · have hE : idE A.k.toNat N p = false := decide_eq_false hid
        have HNI : Hid (¬ pr A.k.toNat N p p = p) := hid
        rw [hE]
        clear hid hE
        gi_wp2
        refine ⟨HKF.out, HK3.out, HK.out.trans HK3.out, HBX3.out, fun k h1 h2 => ?_⟩
        by_cases e : k = j
        · rw [e, HP.out]; exact HNI.out
        · exact HNO.out k h1 (by omega)
  case done =>
    rintro D W hD ⟨hk, hb, hno⟩ hK
    exfalso
    obtain ⟨m, m1, m2, m3⟩ := HMon.out.om_ex hi
    exact hno m m1 (by omega) m3
  case stop =>
    rintro D W hD ⟨hk, x, hb, hx⟩ hKD
    have hz := hk.size
    have HK : Hid (KS (fun b => b < q + 3 ∧ b ≠ q) U W) := hk
    have HX : Hid (OmQ A.k.toNat N i x) := hx
    have HKD : Hid (W.heap[D]? = some (.deferred (some []))) := hKD
    have hcq : W.cell? ⟨q, 0, none⟩ = some (.int .i64 (x : Int)) := cell_at hb rfl
    clear hk hb hx hKD
    gi_wp2
    refine ⟨by simp, .inl ⟨_, _, rfl, run_takeDeferred HKD.out, ?_⟩⟩
    refine ⟨_, results_tmp2 rfl _ _ _, ⟨x, rfl, HX.out⟩, ?_⟩
    exact (HK.out.base HBU.out (fun b hb => ⟨by omega, by omega⟩)).grown (grownBy_putObj' W D _) (by omega) (fun k e => by cases e; omega)

theorem omega_any {w : World} {ob : Nat} {A : Aut} {M : List (List Nat)} {N : List Nat} (h : MO w ob A M N) (i : Nat) (hi : i < M.length) :
    Calls Try.prog 37 #[.pointer (some ⟨ob, 0, none⟩), .int .i64 i] w fun e w' => (∃ x, e = .returned (.tuple #[.int .i64 (x : Nat), .int .i64 0]) ∧ OmQ A.k.toNat N i x) ∧ Below w.heap.size w w' :=
  callsIn_wide.1 (omega_in 3 (by omega) h i hi)
end Go.Proofs.Ytlohfeogaalfcab

namespace Go.Proofs.Ytlohfeogaalfcab
open Go Go.RowKit Go.Lib
set_option linter.unusedVariables false
attribute [-instance] List.instBEq instBEqProd

/-- A row of ints of one's own, and what lies behind its end. -/
def PR (w : World) (b : Nat) (ys : List Nat) (tl : List Value) : Prop := w.heap[b]? = some (.cells (nC ys ++ tl).toArray 3 (0, 0))

theorem PR.cell {w : World} {b : Nat} {ys : List Nat} {tl : List Value} (h : PR w b ys tl) {i : Nat} (hi : i < ys.length) : w.cell? ⟨b, i, none⟩ = some (.int .i64 (ys.getD i 0 : Nat)) := by
  refine cell_at h ?_
  rw [List.getElem?_toArray, List.getElem?_append_left (by rw [nC_len]; exact hi)]
  simp [nC, List.getD_eq_getElem?_getD, hi]

theorem PR.frz {w : World} {b o : Nat} {ys : List Nat} {tl : List Value} (h : PR w b ys tl) : w.frozen? ⟨b, o, none⟩ = false := frz_at h

theorem PR.lt {w : World} {b : Nat} {ys : List Nat} {tl : List Value} (h : PR w b ys tl) : b < w.heap.size := (Array.getElem?_eq_some_iff.1 h).1

theorem PR.below {w w' : World} {b : Nat} {ys : List Nat} {tl : List Value} (h : PR w b ys tl) (hb : Below w.heap.size w w') : PR w' b ys tl := (hb.block b h.lt).trans h

theorem PR.set {w : World} {b : Nat} {ys : List Nat} {tl : List Value} (h : PR w b ys tl) {i : Nat} (x : Nat) (hi : i < ys.length) : PR (w.setCell ⟨b, i, none⟩ (.int .i64 (x : Nat))) b (ys.set i x) tl := by
  show _ = _
  rw [heap_set h, List.setIfInBounds_toArray, List.set_append_left _ _ (by rw [nC_len]; exact hi)]
  simp [nC, List.map_set]

theorem PR.clear {b : Nat} {tl : List Value} : ∀ (ys xs : List Nat) (w : World), PR w b (xs ++ ys) tl → PR (w.setCells b xs.length (List.replicate ys.length (.int .i64 0))) b (xs ++ List.replicate ys.length 0) tl
  | [], xs, w, h => h
  | y :: r, xs, w, h => by
    have h1 := h.set (i := xs.length) 0 (by simp)
    have e : (xs ++ y :: r).set xs.length 0 = (xs ++ [0]) ++ r := by simp
    rw [e] at h1
    have h2 := PR.clear r (xs ++ [0]) _ h1
    rw [List.length_append, List.length_singleton, List.append_assoc] at h2
    exact h2

theorem KS.cells {S : Nat → Prop} {W : World} {m : Nat} (hp : ¬ S m) : ∀ (vs : List Value) (o : Nat) (W1 : World), KS S W W1 → KS S W (W1.setCells m o vs)
  | [], _, _, h => h
  | v :: r, o, W1, h => KS.cells hp r (o + 1) _ (h.set hp)

/-- How far DeleteFunc is: j were looked at, i stay. -/
structure KI (p : Nat → Bool) (L ys : List Nat) (i j : Nat) : Prop where
  len : ys.length = L.length
  ij : i ≤ j
  jl : j ≤ L.length
  lo : ys.take i = (L.take j).filter fun x => !p x
  hi : ys.drop j = L.drop j

theorem KI.at {p : Nat → Bool} {L ys : List Nat} {i j : Nat} (h : KI p L ys i j) (hj : j < L.length) : ys.getD j 0 = L.getD j 0 := by
  have := congrArg (fun l => l[0]?) h.hi
  simp only [List.getElem?_drop, Nat.add_zero] at this
  rw [List.getD_eq_getElem?_getD, List.getD_eq_getElem?_getD, this]

theorem take_more {L : List Nat} {j : Nat} (hj : j < L.length) : L.take (j + 1) = L.take j ++ [L.getD j 0] := by
  rw [List.take_add_one, List.getD_eq_getElem?_getD, List.getElem?_eq_getElem hj]
  rfl

theorem f_no {p : Nat → Bool} {x : Nat} (hp : p x = false) : [x].filter (fun x => !p x) = [x] := by simp [hp]

theorem f_yes {p : Nat → Bool} {x : Nat} (hp : p x = true) : [x].filter (fun x => !p x) = [] := by simp [hp]

theorem KI.keep {p : Nat → Bool} {L ys : List Nat} {i j : Nat} (h : KI p L ys i j) (hj : j < L.length) (hp : p (L.getD j 0) = false) : KI p L (ys.set i (L.getD j 0)) (i + 1) (j + 1) := by
  have h1 := h.len
  have h2 := h.ij
  refine ⟨by rw [List.length_set]; exact h1, by omega, by omega, ?_, ?_⟩
  · rw [take_more hj, List.filter_append, ← h.lo, take_more (by rw [List.length_set]; omega)]
    have e1 : (ys.set i (L.getD j 0)).take i = ys.take i := by rw [List.take_set]; exact List.set_eq_of_length_le (by simp; omega)
    have e2 : (ys.set i (L.getD j 0)).getD i 0 = L.getD j 0 := by rw [List.getD_eq_getElem?_getD, List.getElem?_set_self (by omega)]; rfl
    rw [e1, e2, f_no hp]
  · rw [List.drop_set_of_lt (by omega)]
    have := congrArg (List.drop 1) h.hi
    simpa [List.drop_drop] using this

theorem KI.skip {p : Nat → Bool} {L ys : List Nat} {i j : Nat} (h : KI p L ys i j) (hj : j < L.length) (hp : p (L.getD j 0) = true) : KI p L ys i (j + 1) := by
  have h2 := h.ij
  refine ⟨h.len, by omega, by omega, ?_, ?_⟩
  · rw [take_more hj, List.filter_append, ← h.lo, f_yes hp, List.append_nil]
  · have := congrArg (List.drop 1) h.hi
    simpa [List.drop_drop] using this

theorem none_gone (p : Nat → Bool) : ∀ (L : List Nat) (k : Nat), k ≤ L.length → (∀ j, j < k → p (L.getD j 0) = false) → (L.take k).filter (fun x => !p x) = L.take k := by
  intro L k hk h
  rw [List.filter_eq_self]
  intro x hx
  obtain ⟨j, hj⟩ := List.mem_iff_getElem?.1 hx
  have hl := (List.getElem?_eq_some_iff.1 hj).1
  rw [List.length_take] at hl
  rw [List.getElem?_take_of_lt (by omega)] at hj
  have := h j (by omega)
  rw [List.getD_eq_getElem?_getD, hj] at this
  show (!p x) = true
  rw [show p x = false from this]
  rfl

theorem KI.start {p : Nat → Bool} {L : List Nat} {k : Nat} (hk : k < L.length) (h : ∀ j, j < k → p (L.getD j 0) = false) (hp : p (L.getD k 0) = true) : KI p L L k (k + 1) :=
  ⟨rfl, by omega, by omega, by rw [take_more hk, List.filter_append, none_gone p L k (by omega) h, f_yes hp, List.append_nil], rfl⟩

/-- What IndexFunc answers. -/
def IxN (p : Nat → Bool) (L : List Nat) (w : World) (e : Ending) (w' : World) : Prop :=
  ((e = .returned (.int .i64 (-1)) ∧ ∀ j, j < L.length → p (L.getD j 0) = false) ∨ ∃ k : Nat, e = .returned (.int .i64 (k : Nat)) ∧ k < L.length ∧ p (L.getD k 0) = true ∧ ∀ j, j < k → p (L.getD j 0) = false) ∧ Below w.heap.size w w'

/-- What a closure must do. -/
def FnK (nf : Nat) (fc : Array Value) (p : Nat → Bool) (S : Nat → Prop) (w : World) (L : List Nat) : Prop :=
  ∀ y j, KS S w y → j < L.length → Calls Try.prog nf (#[.int .i64 (L.getD j 0 : Nat)] ++ fc) y fun e y' => e = .returned (.bool (p (L.getD j 0))) ∧ Below y.heap.size y y'

set_option maxHeartbeats 2000000 in
set_option maxRecDepth 100000 in
theorem indexN_any {w : World} {b : Nat} {L : List Nat} {tl : List Value} (h : PR w b L tl) (c : Nat) (nf : Nat) (fc : Array Value) (p : Nat → Bool) (hm : L.length ≤ 40000)
    (eN : ∀ args w, (callFunc nf args).run Try.prog w = .ok (.enter nf args) w) (hN : FnK nf fc p (fun k => k < w.heap.size ∧ k ≠ b) w L) :
    Calls Try.prog 62 #[.slice (some ⟨b, 0, none⟩) L.length c, .func (.func nf) #[] fc] w (IxN p L w) := by
  have HP : Hid (PR w b L tl) := h
  have HN : Hid (FnK nf fc p (fun k => k < w.heap.size ∧ k ≠ b) w L) := hN
  clear h hN
  go_enter Try.func62, Try.ntmps62
  go_wp2_with fail
  go_loopw [8] (fun vi wr => ∃ i : Nat, i ≤ L.length ∧ vi = .int .i64 (i : Nat) ∧ (∀ j, j < i → p (L.getD j 0) = false) ∧ Below w.heap.size w wr) (fun vi _ => L.length - (Go.RowKit.intOf vi).toNat)
  case atStart => exact ⟨0, Nat.zero_le _, rfl, fun j hj => by omega, Below.refl _ _⟩
  case round =>
    obtain ⟨i, hi, rfl, hj, hb⟩ := hrel
    have HB : Hid (Below w.heap.size w wr) := hb
    have HJ : Hid (∀ j, j < i → p (L.getD j 0) = false) := hj
    clear hj hb
    by_cases hlt : i < L.length
    · have hiI : (i : Int) < L.length := by omega
      have hc := (HP.out.below HB.out).cell hlt
      have HC : Hid _ := HN.out wr i (KS.below (fun k hk => hk.1) HB.out) hlt
      have HLT : Hid (i < L.length) := hlt
      clear hlt
      generalize hX : L.getD i 0 = x at hc HC
      have HX : Hid (L.getD i 0 = x) := hX
      clear hX
      cases hp : p x with
      | true =>
        rw [hp] at HC
        have HPX : Hid (p x = true) := hp
        clear hp
        go_wp2_with fail
        refine Calls.mono HC.out ?_
        rintro e w1 ⟨rfl, hb1⟩
        have HB1 : Hid (Below w.heap.size w w1) := go_on HB.out hb1
        clear hb1 hc
        go_wp2_with fail
        go_ret
        exact ⟨.inr ⟨i, rfl, HLT.out, by rw [HX.out]; exact HPX.out, HJ.out⟩, HB1.out⟩
      | false =>
        rw [hp] at HC
        have HJ2 : Hid (∀ j, j < i + 1 → p (L.getD j 0) = false) := fun j hj => by
          by_cases e : j = i
          · subst e; rw [HX.out]; exact hp
          · exact HJ.out j (by omega)
        clear hp
        go_wp2_with fail
        refine Calls.mono HC.out ?_
        rintro e w1 ⟨rfl, hb1⟩
        have HB1 : Hid (Below w.heap.size w w1) := go_on HB.out hb1
        clear hb1 hc
        go_wp2_with fail
        go_roundw
        case rel => exact ⟨i + 1, HLT.out, by go_num, HJ2.out, HB1.out⟩
        case measure => have := HLT.out; simp [Go.RowKit.intOf]; omega
    · have hiI : ¬ (i : Int) < L.length := by omega
      have HE : Hid (i = L.length) := (by omega : i = L.length)
      clear hlt
      go_wp2_with fail
      go_ret
      exact ⟨.inl ⟨rfl, fun j hj => HJ.out j (by rw [HE.out]; exact hj)⟩, HB.out⟩

theorem zero_int (w : World) : (zeroValue 3).run Try.prog w = .ok (.int .i64 0) w := by kernel_rfl

/-- What DeleteFunc answers. -/
def DlN (p : Nat → Bool) (L : List Nat) (tl : List Value) (b c : Nat) (w : World) (e : Ending) (w' : World) : Prop :=
  e = .returned (.slice (some ⟨b, 0, none⟩) (L.filter fun x => !p x).length c) ∧ KS (fun k => k < w.heap.size ∧ k ≠ b) w w' ∧ PR w' b ((L.filter fun x => !p x) ++ List.replicate (L.length - (L.filter fun x => !p x).length) 0) tl

set_option maxHeartbeats 4000000 in
set_option maxRecDepth 100000 in
theorem deleteN_any {w : World} {b : Nat} {L : List Nat} {tl : List Value} (h : PR w b L tl) (c : Nat) (hc : L.length ≤ c) (nf : Nat) (fc : Array Value) (p : Nat → Bool) (hm : L.length ≤ 40000)
    (eN : ∀ args w, (callFunc nf args).run Try.prog w = .ok (.enter nf args) w) (hN : FnK nf fc p (fun k => k < w.heap.size ∧ k ≠ b) w L) :
    Calls Try.prog 35 #[.slice (some ⟨b, 0, none⟩) L.length c, .func (.func nf) #[] fc] w (DlN p L tl b c w) := by
  have HP : Hid (PR w b L tl) := h
  have HN : Hid (FnK nf fc p (fun k => k < w.heap.size ∧ k ≠ b) w L) := hN
  have HI : Hid _ := indexN_any h c nf fc p hm eN hN
  clear h hN
  go_enter Try.func35, Try.ntmps35
  go_wp2_with fail
  refine Calls.mono HI.out ?_
  rintro e w1 ⟨⟨rfl, ha⟩ | ⟨k, rfl, hk, ht, ha⟩, hb⟩
  · have HB : Hid (Below w.heap.size w w1) := hb
    have HE : Hid ((L.filter fun x => !p x) = L) := by
      show _ = _
      have := none_gone p L L.length (Nat.le_refl _) ha
      rwa [List.take_length] at this
    clear ha hb HI
    go_wp2_with fail
    go_ret
    unfold DlN
    rw [HE.out]
    refine ⟨rfl, KS.below (fun k hk => hk.1) HB.out, ?_⟩
    rw [Nat.sub_self, List.replicate_zero, List.append_nil]
    exact HP.out.below HB.out
  · have HB : Hid (Below w.heap.size w w1) := hb
    have HS : Hid (KI p L L k (k + 1)) := KI.start hk ha ht
    have HK : Hid (k < L.length) := hk
    have hne1 : ((k : Int) == -1) = false := beq_eq_false_iff_ne.2 (by omega)
    clear ha hb HI ht
    go_wp2_with fail
    go_loopw [5, 6] (fun vi vj wr => ∃ (i j : Nat) (ys : List Nat), vi = .int .i64 (i : Nat) ∧ vj = .int .i64 (j : Nat) ∧ i < j ∧ KI p L ys i j ∧ KS (fun k => k < w.heap.size ∧ k ≠ b) w wr ∧ PR wr b ys tl) (fun _ vj _ => L.length - (Go.RowKit.intOf vj).toNat)
    case atStart => exact ⟨k, k + 1, L, rfl, by go_num, by omega, HS.out, KS.below (fun k hk => hk.1) HB.out, HP.out.below HB.out⟩
    case round =>
      obtain ⟨i, j, ys, rfl, rfl, hij, hki, hks, hpr⟩ := hrel
      have hjl := hki.jl
      have HKI : Hid (KI p L ys i j) := hki
      have HKS : Hid (KS (fun k => k < w.heap.size ∧ k ≠ b) w wr) := hks
      have HPR : Hid (PR wr b ys tl) := hpr
      have HIJ : Hid (i < j) := hij
      by_cases hlt : j < L.length
      · have hjI : (j : Int) < L.length := by omega
        have hiI : (i : Int) < L.length := by omega
        have hcj := hpr.cell (i := j) (by rw [hki.len]; exact hlt)
        rw [hki.at hlt] at hcj
        have HC : Hid _ := HN.out wr j hks hlt
        have HLT : Hid (j < L.length) := hlt
        have HIL : Hid (i < ys.length) := by show i < _; rw [hki.len]; omega
        clear hlt hki hks hpr
        generalize hX : L.getD j 0 = x at hcj HC
        have HX : Hid (L.getD j 0 = x) := hX
        clear hX
        cases hp : p x with
        | true =>
          rw [hp] at HC
          have HN2 : Hid (KI p L ys i (j + 1)) := HKI.out.skip HLT.out (by rw [HX.out]; exact hp)
          clear hp
          go_wp2_with fail
          refine Calls.mono HC.out ?_
          rintro e w2 ⟨rfl, hb1⟩
          have HK2 : Hid (KS (fun k => k < w.heap.size ∧ k ≠ b) w w2) := HKS.out.trans (KS.below (fun k hk => Nat.lt_of_lt_of_le hk.1 HKS.out.size) hb1)
          have HP2 : Hid (PR w2 b ys tl) := HPR.out.below hb1
          clear hb1 hcj
          go_wp2_with fail
          go_roundw
          case rel => exact ⟨i, j + 1, ys, rfl, by go_num, by omega, HN2.out, HK2.out, HP2.out⟩
          case measure => have := HLT.out; simp [Go.RowKit.intOf]; omega
        | false =>
          rw [hp] at HC
          have HN2 : Hid (KI p L (ys.set i x) (i + 1) (j + 1)) := by
            have := HKI.out.keep HLT.out (by rw [HX.out]; exact hp)
            rwa [HX.out] at this
          clear hp
          go_wp2_with fail
          refine Calls.mono HC.out ?_
          rintro e w2 ⟨rfl, hb1⟩
          have HK2 : Hid (KS (fun k => k < w.heap.size ∧ k ≠ b) w w2) := HKS.out.trans (KS.below (fun k hk => Nat.lt_of_lt_of_le hk.1 HKS.out.size) hb1)
          have hp2 : PR w2 b ys tl := HPR.out.below hb1
          have HP2 : Hid (PR w2 b ys tl) := hp2
          have hci := hp2.cell HIL.out
          have hfi : w2.frozen? ⟨b, i, none⟩ = false := hp2.frz
          clear hb1 hcj hp2
          go_wp2_with fail
          go_roundw
          case rel => exact ⟨i + 1, j + 1, ys.set i x, by go_num, by go_num, by omega, HN2.out, HK2.out.set (fun q => q.2 rfl), HP2.out.set x HIL.out⟩
          case measure => have := HLT.out; simp [Go.RowKit.intOf]; omega
      · have hjI : ¬ (j : Int) < L.length := by omega
        have e : j = L.length := by omega
        have hil : i < L.length := by omega
        have hiI : (i : Int) ≤ L.length := by omega
        have hylen := hki.len
        have HF : Hid (ys.take i = L.filter fun x => !p x) := by
          show _ = _
          have := hki.lo
          rw [e, List.take_length] at this
          exact this
        have hcl : ∀ ty, (Builtin.clear_ #[22] ty #[.slice (some ⟨b, i, none⟩) (L.length - i) (c - i)]).run Try.prog wr = .ok (.tuple #[]) (wr.setCells b i (List.replicate (L.length - i) (.int .i64 0))) :=
          fun ty => Lib.run_clear_slice wr _ 3 ty (.int .i64 0) Try.underlying22 zero_int rfl rfl b i _ _ (by omega) (fun t ht => by rw [hpr.cell (by omega)]; rfl) (fun t ht => hpr.frz)
        have HYL : Hid (ys.length = L.length) := hylen
        clear hki hks hpr hylen
        have hci : L.length - i ≤ c - i := by omega
        go_wp2_with (simp only [hcl])
        go_ret
        have hlen : (L.filter fun x => !p x).length = i := by rw [← HF.out, List.length_take, HYL.out]; omega
        unfold DlN
        rw [hlen]
        refine ⟨rfl, HKS.out.cells (fun q => q.2 rfl) _ _ _, ?_⟩
        have hq : PR wr b (ys.take i ++ ys.drop i) tl := by rw [List.take_append_drop]; exact HPR.out
        have := PR.clear _ _ _ hq
        rw [List.length_take, List.length_drop, HYL.out, Nat.min_eq_left (by omega), HF.out] at this
        exact this
end Go.Proofs.Ytlohfeogaalfcab

namespace Go.Proofs.Ytlohfeogaalfcab
open Go Go.RowKit Go.Lib
set_option linter.unusedVariables false
attribute [-instance] List.instBEq instBEqProd

open Classical in
/-- Is e the idempotent among the powers of i? -/
noncomputable def omE (K : Nat) (N : List Nat) (e i : Nat) : Bool := decide (OmQ K N i e)

theorem omE_true {K : Nat} {N : List Nat} {e i : Nat} (h : OmQ K N i e) : omE K N e i = true := by unfold omE; exact @decide_eq_true _ (Classical.propDecidable _) h

theorem omE_false {K : Nat} {N : List Nat} {e i : Nat} (h : ¬ OmQ K N i e) : omE K N e i = false := by unfold omE; exact @decide_eq_false _ (Classical.propDecidable _) h

/-- Is i a member of the group at e? -/
noncomputable def hcE (K : Nat) (N : List Nat) (e i : Nat) : Bool := btE K N e i && omE K N e i

set_option maxHeartbeats 1000000 in
set_option maxRecDepth 100000 in
theorem members1_any {w : World} {ob : Nat} {A : Aut} {M : List (List Nat)} {N : List Nat} (h : MO w ob A M N) (b b2 e : Nat) (hc : w.cell? ⟨b, 0, none⟩ = some (.pointer (some ⟨ob, 0, none⟩))) (hc2 : w.cell? ⟨b2, 0, none⟩ = some (.int .i64 (e : Nat))) (i : Nat) (hi : i < M.length) :
    Calls Try.prog 36 #[.int .i64 (i : Nat), .pointer (some ⟨b, 0, none⟩), .pointer (some ⟨b2, 0, none⟩)] w fun en w' => en = .returned (.bool (!omE A.k.toNat N e i)) ∧ Below w.heap.size w w' := by
  have HI : Hid _ := omega_any h i hi
  have HC2 : Hid (b2 < w.heap.size ∧ w.cell? ⟨b2, 0, none⟩ = some (.int .i64 (e : Nat))) := ⟨by
    rcases Nat.lt_or_ge b2 w.heap.size with q | q
    · exact q
    · simp [World.cell?, Array.getElem?_eq_none q] at hc2, hc2⟩
  have HMon : Hid (Mon A M N) := h.mon
  have HIL : Hid (i < M.length) := hi
  clear h hc2 hi
  go_enter Try.func36, Try.ntmps36
  go_wp2_with fail
  refine Calls.mono HI.out ?_
  rintro en w1 ⟨⟨x, rfl, hx⟩, hb⟩
  have hc2 : w1.cell? ⟨b2, 0, none⟩ = some (.int .i64 (e : Nat)) := by rw [below_cellJ hb HC2.out.1]; exact HC2.out.2
  have HB : Hid (Below w.heap.size w w1) := hb
  have HX : Hid (OmQ A.k.toNat N i x) := hx
  clear hb hx hc
  by_cases hxe : x = e
  · have hne : ((x : Int) == (e : Int)) = true := by rw [hxe]; simp
    have HV : Hid (omE A.k.toNat N e i = true) := by
      show _ = _
      rw [← hxe]
      exact omE_true HX.out
    clear hxe
    go_wp2_with fail
    go_ret
    refine ⟨?_, HB.out⟩
    rw [HV.out]
    simp_all
  · have hne : ((x : Int) == (e : Int)) = false := beq_eq_false_iff_ne.2 (by omega)
    have HV : Hid (omE A.k.toNat N e i = false) := by
      show _ = _
      exact omE_false fun q => hxe (HMon.out.om_uniq HIL.out HX.out q)
    clear hxe
    go_wp2_with fail
    go_ret
    refine ⟨?_, HB.out⟩
    rw [HV.out]
    simp_all

theorem icV_id {A : Aut} {M : List (List Nat)} {N : List Nat} {e : Nat} (he : e < M.length) (hee : pr A.k.toNat N e e = e) : icV A.k.toNat M.length N [(e : Int)] = 0 := by
  unfold icV
  have h1 : hasE M.length (e : Int) = true := decide_eq_true ⟨by omega, by omega⟩
  have h2 : idE A.k.toNat N e = true := decide_eq_true hee
  simp [h1, h2]

theorem thL_two (n : Nat) (P Q : Nat → Bool) : ((thL n P).filter fun x => Q x) = thL n fun x => P x && Q x := by
  unfold thL
  rw [List.filter_filter]
  congr 1
  funext x
  exact Bool.and_comm _ _

/-- What membersAt answers: a row of one's own, not the nil one. -/
def MmQ (K n : Nat) (N : List Nat) (e : Nat) (w : World) (en : Ending) (w' : World) : Prop :=
  ∃ v, en = .returned v ∧ OwnN w' w.heap.size v (thL n (hcE K N e)) ∧ Below w.heap.size w w'

set_option maxHeartbeats 2000000 in
set_option maxRecDepth 100000 in
theorem membersAt_any {w : World} {ob : Nat} {A : Aut} {M : List (List Nat)} {N : List Nat} (h : MO w ob A M N) (e : Nat) (he : e < M.length) (hee : pr A.k.toNat N e e = e) :
    Calls Try.prog 14 #[.pointer (some ⟨ob, 0, none⟩), .int .i64 (e : Nat)] w (MmQ A.k.toNat M.length N e w) := by
  obtain ⟨w2, hw2⟩ : ∃ w2, w2 = (w.alloc (.cells #[.pointer (some ⟨ob, 0, none⟩)] 26)).alloc (.cells #[.int .i64 (e : Nat)] 3) := ⟨_, rfl⟩
  have HW2 : Hid (w2 = (w.alloc (.cells #[.pointer (some ⟨ob, 0, none⟩)] 26)).alloc (.cells #[.int .i64 (e : Nat)] 3)) := hw2
  have HB2 : Hid (Below w.heap.size w w2) := by show Below _ _ _; rw [hw2]; exact go_on (below_new _ _) (below_new _ _)
  have HZ2 : Hid (w2.heap.size = w.heap.size + 2) := by show _ = _; rw [hw2]; simp
  have hcA : w2.cell? ⟨w.heap.size, 0, none⟩ = some (.pointer (some ⟨ob, 0, none⟩)) := by
    rw [hw2, below_cellJ (below_new (w.alloc _) _) (by simp)]
    rw [cell_of_row _ _ _ _ _ _ (heap_last w _)]; rfl
  have hcB : w2.cell? ⟨w.heap.size + 1, 0, none⟩ = some (.int .i64 (e : Nat)) := by
    have := heap_last (w.alloc (.cells #[.pointer (some ⟨ob, 0, none⟩)] 26)) (.cells #[.int .i64 (e : Nat)] 3)
    rw [← hw2, World.size_alloc] at this
    rw [cell_of_row _ _ _ _ _ _ this]; rfl
  have HCA : Hid (w2.cell? ⟨w.heap.size, 0, none⟩ = some (.pointer (some ⟨ob, 0, none⟩))) := hcA
  have HCB : Hid (w2.cell? ⟨w.heap.size + 1, 0, none⟩ = some (.int .i64 (e : Nat))) := hcB
  have HM : Hid (MO w2 ob A M N) := h.below HB2.out
  have HL : Hid (∃ l, bwL A.k.toNat M.length N (e : Int) = l ∧ l = thL M.length (btE A.k.toNat N e) ∧ icV A.k.toNat M.length N [(e : Int)] = 0 ∧ 0 < l.length ∧ l.length ≤ 512) := by
    have h0 := icV_id (A := A) he hee
    refine ⟨_, rfl, ?_, h0, ?_, ?_⟩
    · unfold bwL; rw [if_pos h0, Int.toNat_natCast]
    · unfold bwL
      rw [if_pos h0, Int.toNat_natCast]
      refine List.length_pos_of_mem (a := e) (mem_thL.2 ⟨he, ?_⟩)
      unfold btE
      rw [hee, hee]
      exact decide_eq_true rfl
    · unfold bwL
      rw [if_pos h0]
      exact Nat.le_trans (thL_len _ _) h.mon.most
  have HI : Hid _ := iBetween_all HM.out (e : Int)
  have HMON : Hid (e < M.length) := he
  clear h hw2 he hee hcA hcB
  go_enter Try.func14, Try.ntmps14
  have hcA := HCA.out
  have hcB := HCB.out
  rw [HW2.out] at hcA hcB
  go_wp2_with fail
  rw [← HW2.out]
  refine Calls.mono HI.out ?_
  rintro en w3 ⟨v, rfl, ho, hb⟩
  obtain ⟨l, hl, hlt, hi0, hpos, h512⟩ := HL.out
  rw [hl] at ho
  rw [hi0]
  obtain ⟨g, cap, cur, rfl, hgb, hg, hlc, hcm, hcs, htk⟩ : ∃ g cap cur, v = .slice (some ⟨g, 0, none⟩) l.length cap ∧ w2.heap.size ≤ g ∧ w3.heap[g]? = some (.cells cur 3 (0, 0)) ∧ l.length ≤ cap ∧ cap ≤ maxLen ∧ cur.size = cap ∧ cur.toList.take l.length = nC l := by
    rcases ho.2 with ⟨_, q⟩ | ⟨g, cap, cur, q1, q2, q3, q4, q5, q6, q7⟩
    · omega
    · exact ⟨g, cap, cur, q1, q2, q3, q4, q5, by rw [q6, Nat.mul_one], by rw [Nat.mul_one] at q7; exact q7⟩
  have HPR : Hid (PR w3 g l (cur.toList.drop l.length)) := by
    show _ = _
    rw [hg, ← htk, List.take_append_drop, Array.toArray_toList]
  have HB3 : Hid (Below w2.heap.size w2 w3) := hb
  have HG : Hid (w2.heap.size ≤ g) := hgb
  have HN : Hid (FnK 36 #[.pointer (some ⟨w.heap.size, 0, none⟩), .pointer (some ⟨w.heap.size + 1, 0, none⟩)] (fun i => !omE A.k.toNat N e i) (fun k => k < w3.heap.size ∧ k ≠ g) w3 l) := by
    intro y j hy hj
    have hz := HZ2.out
    have hs3 := HB3.out.size
    have hby : Below w2.heap.size w2 y := ⟨hy.os.trans HB3.out.os, hy.tape.trans HB3.out.tape, hy.output.trans HB3.out.output, Nat.le_trans hs3 hy.size, fun k hk => (hy.block k ⟨by omega, by have := HG.out; omega⟩).trans (HB3.out.block k hk)⟩
    have hjm : l.getD j 0 < M.length := by
      have : l.getD j 0 ∈ l := by rw [List.getD_eq_getElem?_getD, List.getElem?_eq_getElem hj]; exact List.getElem_mem hj
      have q : l.getD j 0 ∈ thL M.length (btE A.k.toNat N e) := by rw [← hlt]; exact this
      exact (mem_thL.1 q).1
    exact members1_any (HM.out.below hby) w.heap.size (w.heap.size + 1) e (by rw [below_cellJ hby (by omega)]; exact HCA.out) (by rw [below_cellJ hby (by omega)]; exact HCB.out) (l.getD j 0) hjm
  have HD : Hid _ := deleteN_any HPR.out cap hlc 36 _ (fun i => !omE A.k.toNat N e i) (by omega) (enters_of Try.func36 (by kernel_rfl) rfl) HN.out
  have HLF : Hid ((l.filter fun x => !(!omE A.k.toNat N e x)) = thL M.length (hcE A.k.toNat N e)) := by
    show _ = _
    rw [hlt, show (fun x => !(!omE A.k.toNat N e x)) = fun x => omE A.k.toNat N e x from by funext x; simp, thL_two]
    rfl
  have HCS : Hid (cur.size = cap ∧ cap ≤ maxLen ∧ l.length ≤ cap) := ⟨hcs, hcm, hlc⟩
  clear ho hb hgb hg hlc hcm hcs htk hl hlt hi0 hpos h512 hcA hcB
  go_wp2_with fail
  refine Calls.mono HD.out ?_
  rintro en w4 ⟨rfl, hks, hpr⟩
  have HKS : Hid (KS (fun k => k < w3.heap.size ∧ k ≠ g) w3 w4) := hks
  rw [HLF.out] at hpr ⊢
  have HP4 : Hid (PR w4 g (thL M.length (hcE A.k.toNat N e) ++ List.replicate (l.length - (thL M.length (hcE A.k.toNat N e)).length) 0) (cur.toList.drop l.length)) := hpr
  clear hks hpr
  go_wp2_with fail
  go_ret
  have hcs := HCS.out
  have hz := HZ2.out
  have hg := HG.out
  have hs3 := HB3.out.size
  have hfl : (thL M.length (hcE A.k.toNat N e)).length ≤ l.length := by rw [← HLF.out]; exact List.length_filter_le _ _
  refine ⟨_, rfl, ⟨by rw [nC_len, Nat.mul_one], .inr ⟨g, cap, _, rfl, by omega, HP4.out, by omega, hcs.2.1, ?_, ?_⟩⟩, ?_⟩
  · rw [List.size_toArray, List.length_append, nC_len, List.length_append, List.length_replicate, List.length_drop]
    have e1 : cur.toList.length = cur.size := rfl
    omega
  · rw [Nat.mul_one, List.toList_toArray, nC_append, List.append_assoc, List.take_append_of_le_length (by rw [nC_len]; exact Nat.le_refl _), List.take_of_length_le (by rw [nC_len]; exact Nat.le_refl _)]
  · have hb2 := HB2.out
    have hb3 := HB3.out
    have hk := HKS.out
    exact ⟨hk.os.trans (hb3.os.trans hb2.os), hk.tape.trans (hb3.tape.trans hb2.tape), hk.output.trans (hb3.output.trans hb2.output), by have := hk.size; have := hb2.size; omega, fun k hlt => (hk.block k ⟨by omega, by omega⟩).trans ((hb3.block k (by omega)).trans (hb2.block k hlt))⟩
end Go.Proofs.Ytlohfeogaalfcab

namespace Go.Proofs.Ytlohfeogaalfcab
open Go Go.RowKit Go.Lib Go.Maps
set_option linter.unusedVariables false
attribute [-instance] List.instBEq instBEqProd

theorem wfI {x : Nat} (h : x < 1000000) : (Lit.int .i64 (x : Nat)).wf = true := by
  have h1 : IntKind.i64.max = 9223372036854775807 := by decide
  have h2 : IntKind.i64.min = -9223372036854775808 := by decide
  simp only [Lit.wf, h1, h2, Bool.and_eq_true, decide_eq_true_iff]
  omega

theorem Try.und_mapI : Try.prog.underlying 115 = some (.map 3 3) := by kernel_rfl

/-- A member's place, or 0. -/
def plN (l : List Nat) (x : Nat) : Nat := if x ∈ l then List.findIdx (fun y => decide (y = x)) l else 0

theorem plN_at {l : List Nat} (hd : ∀ i j, i < l.length → j < l.length → l.getD i 0 = l.getD j 0 → i = j) {j : Nat} (hj : j < l.length) : plN l (l.getD j 0) = j := by
  have hm : l.getD j 0 ∈ l := by rw [List.getD_eq_getElem?_getD, List.getElem?_eq_getElem hj]; exact List.getElem_mem hj
  unfold plN
  rw [if_pos hm]
  have hlt : List.findIdx (fun y => decide (y = l.getD j 0)) l < l.length := List.findIdx_lt_length.2 ⟨_, hm, by simp⟩
  refine hd _ _ hlt hj ?_
  have := List.findIdx_getElem (p := fun y => decide (y = l.getD j 0)) (xs := l) (w := hlt)
  rw [decide_eq_true_iff] at this
  rw [List.getD_eq_getElem?_getD, List.getElem?_eq_getElem hlt]
  exact this

/-- What the map knows once i members were put in. -/
structure PM (l : List Nat) (i : Nat) (D : DataW Unit) : Prop where
  num : ∀ j, j < i → ∀ z, D.atKey (.int .i64 (l.getD j 0 : Nat)) z = .lit (.int .i64 (j : Nat))
  has : ∀ x : Int, Maps.has D (.int .i64 x) = true ↔ ∃ j, j < i ∧ x = (l.getD j 0 : Nat)

theorem PM.empty (l : List Nat) : PM l 0 (.map []) := ⟨fun j hj => by omega, fun x => ⟨fun h => by simp [Maps.has] at h, fun ⟨j, hj, _⟩ => by omega⟩⟩

theorem PM.put {l : List Nat} (hd : ∀ i j, i < l.length → j < l.length → l.getD i 0 = l.getD j 0 → i = j) {i : Nat} {D : DataW Unit} (h : PM l i D) (hD : IsMap D) (hi : i < l.length) : PM l (i + 1) (D.put (.int .i64 (l.getD i 0 : Nat)) (.lit (.int .i64 (i : Nat)))) := by
  have hk : WideAt.IsKeyLit (.int .i64 (l.getD i 0 : Nat)) := trivial
  constructor
  · intro j hj z
    by_cases e : j = i
    · subst e; exact atKey_put_same hD hk _ _
    · rw [atKey_put_other (fun q => e ?_)]
      · exact h.num j (by omega) z
      · simp only [Lit.int.injEq, true_and] at q
        exact hd j i (by omega) hi (by omega)
  · intro x
    by_cases e : x = (l.getD i 0 : Nat)
    · subst e
      exact ⟨fun _ => ⟨i, by omega, rfl⟩, fun _ => has_put_same hD hk _⟩
    · rw [has_put_other (fun q => e (by simpa using q)), h.has x]
      constructor
      · rintro ⟨j, hj, q⟩; exact ⟨j, by omega, q⟩
      · rintro ⟨j, hj, q⟩
        by_cases c : j = i
        · subst c; exact absurd q e
        · exact ⟨j, by omega, q⟩

theorem PM.all {l : List Nat} (hd : ∀ i j, i < l.length → j < l.length → l.getD i 0 = l.getD j 0 → i = j) {D : DataW Unit} (h : PM l l.length D) (x : Nat) : D.atKey (.int .i64 (x : Nat)) (.lit (.int .i64 0)) = .lit (.int .i64 (plN l x : Nat)) := by
  by_cases hx : x ∈ l
  · obtain ⟨j, hj, rfl⟩ : ∃ j, j < l.length ∧ x = l.getD j 0 := by
      obtain ⟨j, hj⟩ := List.mem_iff_getElem?.1 hx
      exact ⟨j, (List.getElem?_eq_some_iff.1 hj).1, by rw [List.getD_eq_getElem?_getD, hj]; rfl⟩
    rw [h.num j hj, plN_at hd hj]
  · have : Maps.has D (.int .i64 (x : Nat)) = false := by
      rw [Bool.eq_false_iff]
      intro q
      obtain ⟨j, hj, e⟩ := (h.has _).1 q
      apply hx
      have e2 : x = l.getD j 0 := by omega
      rw [e2, List.getD_eq_getElem?_getD, List.getElem?_eq_getElem hj]
      exact List.getElem_mem hj
    rw [atKey_of_not_has this]
    unfold plN
    rw [if_neg hx]
    rfl

theorem thL_nodup (n : Nat) (P : Nat → Bool) : ∀ i j, i < (thL n P).length → j < (thL n P).length → (thL n P).getD i 0 = (thL n P).getD j 0 → i = j := by
  intro i j hi hj e
  rw [List.getD_eq_getElem?_getD, List.getD_eq_getElem?_getD, List.getElem?_eq_getElem hi, List.getElem?_eq_getElem hj] at e
  have : (thL n P).Nodup := List.Nodup.sublist List.filter_sublist List.nodup_range
  exact (List.getElem_inj this).1 e

/-- The roll, as a struct's cells. -/
def roC (gm n cm mb pb ib : Nat) (one : Int) : Array Value := #[.slice (some ⟨gm, 0, none⟩) n cm, .map (some mb), .slice (some ⟨pb, 0, none⟩) n n, .slice (some ⟨ib, 0, none⟩) n n, .int .i64 one]
def roZ : Array Value := #[.slice none 0 0, .map none, .slice none 0 0, .slice none 0 0, .int .i64 0]

structure RS (w : World) (l : List Nat) (gm cm tb mb pb ib i : Nat) (one : Int) (D : DataW Unit) (P I : List Nat) (y : World) : Prop where
  bel : Below w.heap.size w y
  rcx : y.heap[w.heap.size]? = some (.cells roZ 117 (0, 0))
  mem : OwnN y w.heap.size (.slice (some ⟨gm, 0, none⟩) l.length cm) l
  tt : y.heap[tb]? = some (.cells (roC gm l.length cm mb pb ib one) 117 (0, 0))
  mp : y.ownsMap Try.prog 3 (plainElem Try.prog 3) mb i D
  ps : PR y pb P []
  is : PR y ib I []
  pl : P.length = l.length
  il : I.length = l.length
  ne : pb ≠ ib ∧ gm ≠ pb ∧ gm ≠ ib ∧ w.heap.size < gm ∧ w.heap.size < tb ∧ w.heap.size < mb ∧ w.heap.size < pb ∧ w.heap.size < ib

/-- Blocks that hold unlike things. -/
theorem blk_neO {w : World} {a b : Nat} {o1 o2 : Obj} (h1 : w.heap[a]? = some o1) (h2 : w.heap[b]? = some o2) (h : o1 ≠ o2) : a ≠ b := by
  intro e; subst e; rw [h1] at h2; exact h (Option.some.inj h2)

theorem RS.call {w : World} {l : List Nat} {gm cm tb mb pb ib i : Nat} {one : Int} {D : DataW Unit} {P I : List Nat} {y y' : World} (h : RS w l gm cm tb mb pb ib i one D P I y) (hb : Below y.heap.size y y') : RS w l gm cm tb mb pb ib i one D P I y' := by
  have hrc := (Array.getElem?_eq_some_iff.1 h.rcx).1
  have htb := (Array.getElem?_eq_some_iff.1 h.tt).1
  refine ⟨go_on h.bel hb, (hb.block _ hrc).trans h.rcx, own_below h.mem hb, (hb.block _ htb).trans h.tt, ?_, h.ps.below hb, h.is.below hb, h.pl, h.il, h.ne⟩
  obtain ⟨es, clock, q, F, hs, hD⟩ := h.mp
  exact ⟨es, clock, (hb.block _ (Array.getElem?_eq_some_iff.1 q).1).trans q, F, hs, hD⟩

theorem RS.facts {w : World} {l : List Nat} {gm cm tb mb pb ib i : Nat} {one : Int} {D : DataW Unit} {P I : List Nat} {y : World} (h : RS w l gm cm tb mb pb ib i one D P I y) : mb ≠ w.heap.size ∧ mb ≠ gm ∧ mb ≠ tb ∧ mb ≠ pb ∧ mb ≠ ib ∧ tb ≠ w.heap.size ∧ tb ≠ gm ∧ tb ≠ pb ∧ tb ≠ ib := by
  obtain ⟨es, clock, q, F, hs, hD⟩ := h.mp
  obtain ⟨n1, n2, n3, n4, n5, n6, n7, n8⟩ := h.ne
  have hg : mb ≠ gm ∧ tb ≠ gm := by
    rcases h.mem.2 with ⟨q1, _⟩ | ⟨g, cap, cur, q1, _, q3, _⟩
    · simp at q1
    · simp only [Value.slice.injEq, Option.some.injEq, Addr.mk.injEq, and_true] at q1
      obtain ⟨⟨rfl, _⟩, _⟩ := q1
      exact ⟨blk_neO q q3 (by simp), blk_neO h.tt q3 (by simp)⟩
  exact ⟨by omega, hg.1, blk_neO q h.tt (by simp), blk_neO q h.ps (by simp), blk_neO q h.is (by simp), by omega, hg.2, blk_neO h.tt h.ps (by simp), blk_neO h.tt h.is (by simp)⟩

theorem OwnN.keep {y y' : World} {base gm n cm : Nat} {l : List Nat} (h : OwnN y base (.slice (some ⟨gm, 0, none⟩) n cm) l) (hk : y'.heap[gm]? = y.heap[gm]?) : OwnN y' base (.slice (some ⟨gm, 0, none⟩) n cm) l := by
  obtain ⟨a, b⟩ := h
  refine ⟨a, ?_⟩
  rcases b with b | ⟨g, cap, cur, q1, q2, q3, q4⟩
  · exact .inl b
  · have e := q1
    simp only [Value.slice.injEq, Option.some.injEq, Addr.mk.injEq, and_true] at e
    exact .inr ⟨g, cap, cur, q1, q2, by rw [← e.1] at q3 ⊢; rw [hk]; exact q3, q4⟩

theorem RS.put {w : World} {l : List Nat} {gm cm tb mb pb ib i : Nat} {one : Int} {D D' : DataW Unit} {P I : List Nat} {y y' : World} (h : RS w l gm cm tb mb pb ib i one D P I y)
    (hm : y'.ownsMap Try.prog 3 (plainElem Try.prog 3) mb (i + 1) D') (hg : y.grownBy y' (some mb)) : RS w l gm cm tb mb pb ib (i + 1) one D' P I y' := by
  obtain ⟨f1, f2, f3, f4, f5, f6, f7, f8, f9⟩ := h.facts
  have hrc := (Array.getElem?_eq_some_iff.1 h.rcx).1
  have htb := (Array.getElem?_eq_some_iff.1 h.tt).1
  have k : ∀ b, b < y.heap.size → mb ≠ b → y'.heap[b]? = y.heap[b]? := fun b hb hn => hg.block b hb (by simpa using fun e => hn e.symm)
  have hgm : gm < y.heap.size := by
    rcases h.mem.2 with ⟨q1, _⟩ | ⟨g, cap, cur, q1, _, q3, _⟩
    · simp at q1
    · simp only [Value.slice.injEq, Option.some.injEq, Addr.mk.injEq, and_true] at q1
      obtain ⟨⟨rfl, _⟩, _⟩ := q1
      exact (Array.getElem?_eq_some_iff.1 q3).1
  exact ⟨h.bel.grown hg h.bel.size (fun b e => by have := h.ne; simp only [Option.some.injEq] at e; omega), (k _ hrc f1).trans h.rcx, h.mem.keep (k _ hgm f2), (k _ htb f3).trans h.tt, hm, (k _ h.ps.lt f4).trans h.ps, (k _ h.is.lt f5).trans h.is, h.pl, h.il, h.ne⟩

theorem RS.setp {w : World} {l : List Nat} {gm cm tb mb pb ib i : Nat} {one : Int} {D : DataW Unit} {P I : List Nat} {y : World} (h : RS w l gm cm tb mb pb ib i one D P I y) {j : Nat} (hj : j < l.length) (x : Nat) :
    RS w l gm cm tb mb pb ib i one D (P.set j x) I (y.setCell ⟨pb, j, none⟩ (.int .i64 (x : Nat))) := by
  obtain ⟨f1, f2, f3, f4, f5, f6, f7, f8, f9⟩ := h.facts
  obtain ⟨n1, n2, n3, n4, n5, n6, n7, n8⟩ := h.ne
  have k : ∀ b, b ≠ pb → (y.setCell ⟨pb, j, none⟩ (.int .i64 (x : Nat))).heap[b]? = y.heap[b]? := fun b hb => heap_set_other hb
  refine ⟨h.bel.setCell (p := ⟨pb, j, none⟩) (by show w.heap.size ≤ pb; omega) _, (k _ (by omega)).trans h.rcx, h.mem.keep (k _ n2), (k _ f8).trans h.tt, ?_, h.ps.set x (by rw [h.pl]; exact hj), (k _ (Ne.symm n1)).trans h.is, by rw [List.length_set]; exact h.pl, h.il, h.ne⟩
  obtain ⟨es, clock, q, F, hs, hD⟩ := h.mp
  exact ⟨es, clock, (k _ f4).trans q, F, hs, hD⟩

theorem RS.seti {w : World} {l : List Nat} {gm cm tb mb pb ib i : Nat} {one : Int} {D : DataW Unit} {P I : List Nat} {y : World} (h : RS w l gm cm tb mb pb ib i one D P I y) {j : Nat} (hj : j < l.length) (x : Nat) :
    RS w l gm cm tb mb pb ib i one D P (I.set j x) (y.setCell ⟨ib, j, none⟩ (.int .i64 (x : Nat))) := by
  obtain ⟨f1, f2, f3, f4, f5, f6, f7, f8, f9⟩ := h.facts
  obtain ⟨n1, n2, n3, n4, n5, n6, n7, n8⟩ := h.ne
  have k : ∀ b, b ≠ ib → (y.setCell ⟨ib, j, none⟩ (.int .i64 (x : Nat))).heap[b]? = y.heap[b]? := fun b hb => heap_set_other hb
  refine ⟨h.bel.setCell (p := ⟨ib, j, none⟩) (by show w.heap.size ≤ ib; omega) _, (k _ (by omega)).trans h.rcx, h.mem.keep (k _ n3), (k _ f9).trans h.tt, ?_, (k _ n1).trans h.ps, h.is.set x (by rw [h.il]; exact hj), h.pl, by rw [List.length_set]; exact h.il, h.ne⟩
  obtain ⟨es, clock, q, F, hs, hD⟩ := h.mp
  exact ⟨es, clock, (k _ f5).trans q, F, hs, hD⟩

theorem RS.look {w : World} {l : List Nat} {gm cm tb mb pb ib : Nat} {one : Int} {D : DataW Unit} {P I : List Nat} {y : World} (h : RS w l gm cm tb mb pb ib l.length one D P I y) (hp : PM l l.length D) (hd : ∀ i j, i < l.length → j < l.length → l.getD i 0 = l.getD j 0 → i = j) (x : Nat) (hx : x < 1000000) :
    (Instr.lookup 115 (.map (some mb)) (.int .i64 (x : Nat)) false).run Try.prog y = .ok (.int .i64 (plN l x : Nat)) y := by
  obtain ⟨c, h1, h2, _⟩ := h.mp.lookup_int (key := .int .i64 (x : Nat)) (kl := .int .i64 (x : Nat)) keyI Try.und_mapI Try.und_int (Try.zero_int _) (keyOf_int_mk Try.und_int (wfI (by omega)))
  rw [hp.all hd x] at h2
  simp only [DataW.lit.injEq, Lit.int.injEq, true_and] at h2
  rw [h1, h2]

theorem al4 (y : World) (o1 o2 o3 o4 : Obj) : ((((y.alloc o1).alloc o2).alloc o3).alloc o4).heap[y.heap.size]? = some o1 ∧ ((((y.alloc o1).alloc o2).alloc o3).alloc o4).heap[y.heap.size + 1]? = some o2 ∧ ((((y.alloc o1).alloc o2).alloc o3).alloc o4).heap[y.heap.size + 1 + 1]? = some o3 ∧ ((((y.alloc o1).alloc o2).alloc o3).alloc o4).heap[y.heap.size + 1 + 1 + 1]? = some o4 ∧ Below y.heap.size y ((((y.alloc o1).alloc o2).alloc o3).alloc o4) := by
  refine ⟨?_, ?_, ?_, ?_, go_on (go_on (go_on (below_new _ _) (below_new _ _)) (below_new _ _)) (below_new _ _)⟩
  · rw [heap_allo (by simp; omega), heap_allo (by simp; omega), heap_allo (by simp)]; exact heap_last _ _
  · rw [heap_allo (by simp), heap_allo (by simp)]
    have := heap_last (y.alloc o1) o2
    rwa [World.size_alloc] at this
  · rw [heap_allo (by simp)]
    have := heap_last ((y.alloc o1).alloc o2) o3
    rwa [World.size_alloc, World.size_alloc] at this
  · have := heap_last (((y.alloc o1).alloc o2).alloc o3) o4
    rwa [World.size_alloc, World.size_alloc, World.size_alloc] at this

theorem roZ_facts {y : World} {b : Nat} (h : y.heap[b]? = some (.cells roZ 117 (0, 0))) : (y.cell? ⟨b, 0, none⟩ = some (.slice none 0 0) ∧ y.cell? ⟨b, 1, none⟩ = some (.map none) ∧ y.cell? ⟨b, 2, none⟩ = some (.slice none 0 0) ∧ y.cell? ⟨b, 3, none⟩ = some (.slice none 0 0) ∧ y.cell? ⟨b, 4, none⟩ = some (.int .i64 0)) ∧ ∀ o, y.frozen? ⟨b, o, none⟩ = false :=
  ⟨⟨cell_at h rfl, cell_at h rfl, cell_at h rfl, cell_at h rfl, cell_at h rfl⟩, fun o => frz_at h⟩

theorem ro_set {y : World} {b : Nat} (h : y.heap[b]? = some (.cells roZ 117 (0, 0))) (x0 x1 x2 x3 x4 : Value) : (((((y.setCell ⟨b, 0, none⟩ x0).setCell ⟨b, 1, none⟩ x1).setCell ⟨b, 2, none⟩ x2).setCell ⟨b, 3, none⟩ x3).setCell ⟨b, 4, none⟩ x4).heap[b]? = some (.cells #[x0, x1, x2, x3, x4] 117 (0, 0)) := by
  rw [heap_set (heap_set (heap_set (heap_set (heap_set h))))]
  rfl

theorem ro_oth {y : World} {b c : Nat} (h : c ≠ b) (x0 x1 x2 x3 x4 : Value) : (((((y.setCell ⟨b, 0, none⟩ x0).setCell ⟨b, 1, none⟩ x1).setCell ⟨b, 2, none⟩ x2).setCell ⟨b, 3, none⟩ x3).setCell ⟨b, 4, none⟩ x4).heap[c]? = y.heap[c]? := by
  rw [heap_set_other h, heap_set_other h, heap_set_other h, heap_set_other h, heap_set_other h]

theorem Try.info_roll : (Try.prog.info? 117).map (·.size) = some 5 := by kernel_rfl
end Go.Proofs.Ytlohfeogaalfcab

namespace Go.Proofs.Ytlohfeogaalfcab
open Go Go.RowKit Go.Shelf Go.Lib
set_option linter.unusedVariables false
attribute [-instance] List.instBEq instBEqProd

attribute [local go_sem] Oper.semAt_some

/-- What met knows when j powers were gone through. -/
structure Met (K : Nat) (N : List Nat) (i n j : Nat) (cs : List Nat) : Prop where
  len : cs.length = n
  old : ∀ k, k < j → cs[pwN K N i k]? = some (k + 1)
  new : ∀ x v : Nat, cs[x]? = some v → v ≠ 0 → ∃ k, k < j ∧ pwN K N i k = x ∧ v = k + 1
  apart : ∀ a b, a < b → b < j → pwN K N i a ≠ pwN K N i b

theorem Met.start (K : Nat) (N : List Nat) (i n : Nat) : Met K N i n 0 (List.replicate n 0) :=
  ⟨by simp, fun k h => by omega, fun x v hx hv => (by
    rw [List.getElem?_replicate] at hx
    split at hx
    · injection hx with hx
      exact absurd hx.symm hv
    · exact absurd hx (by simp)), fun a b h1 h2 => by omega⟩

theorem Met.next {K : Nat} {N : List Nat} {i n j : Nat} {cs : List Nat} (h : Met K N i n j cs) (hp : pwN K N i j < n) (h0 : cs[pwN K N i j]? = some 0) : Met K N i n (j + 1) (cs.set (pwN K N i j) (j + 1)) := by
  have hne : ∀ k, k < j → pwN K N i k ≠ pwN K N i j := fun k hk e => by
    have := h.old k hk
    rw [e, h0] at this
    cases this
  refine ⟨by rw [List.length_set]; exact h.len, fun k hk => ?_, fun x v hx hv => ?_, fun a b hab hb => ?_⟩
  · rw [List.getElem?_set]
    by_cases e : k = j
    · subst e
      rw [if_pos rfl, if_pos (by rw [h.len]; exact hp)]
    · rw [if_neg (fun q => hne k (by omega) q.symm)]
      exact h.old k (by omega)
  · rw [List.getElem?_set] at hx
    split at hx
    · rename_i e
      split at hx
      · cases hx
        exact ⟨j, by omega, e, rfl⟩
      · cases hx
    · obtain ⟨k, k1, k2, k3⟩ := h.new x v hx hv
      exact ⟨k, by omega, k2, k3⟩
  · by_cases e : b = j
    · subst e
      exact hne a hab
    · exact h.apart a b hab (by omega)

theorem Met.found {K : Nat} {N : List Nat} {i n j : Nat} {cs : List Nat} (h : Met K N i n j cs) {v : Nat} (h0 : cs[pwN K N i j]? = some v) (hv : v ≠ 0) : v ≤ j ∧ 1 ≤ v ∧ TR (rm K N i) 0 (v - 1) (j - (v - 1)) := by
  obtain ⟨k, k1, k2, k3⟩ := h.new _ _ h0 hv
  subst k3
  refine ⟨by omega, by omega, ?_, ?_, by omega⟩
  · intro a b hab hb
    exact h.apart a b hab (by omega)
  · show pwN K N i _ = pwN K N i _
    rw [show k + 1 - 1 + (j - (k + 1 - 1)) = j by omega, show k + 1 - 1 = k by omega, k2]

theorem Met.done {A : Aut} {M : List (List Nat)} {N : List Nat} (hm : Mon A M N) {i : Nat} (hi : i < M.length) {cs : List Nat} (h : Met A.k.toNat N i M.length (M.length + 1) cs) : False := by
  have := nodup_le M.length ((List.range (M.length + 1)).map (pwN A.k.toNat N i)) (map_nodup (fun a b hab hb => h.apart a b hab hb)) (fun x hx => by
    obtain ⟨k, _, rfl⟩ := List.mem_map.1 hx
    exact hm.pw_lt hi k)
  simp at this
  omega

theorem made_nC (n : Nat) : madeCells #[Value.int .i64 0] n = (nC (List.replicate n 0)).toArray := by
  apply Array.ext'
  apply List.ext_getElem?
  intro j
  by_cases hj : j < n
  · simp [madeCells, nC, hj, Nat.mod_one]
  · simp [madeCells, nC, hj]

theorem results_int2 {fn : Func} {p r : Tmp} (h : fn.results = #[.cell p 3, .cell r 3]) {tmps : Array Value} {b c : Nat} {x y : Int} {w : World} (hp : tmps.getD p undef = .pointer (some ⟨b, 0, none⟩)) (hr : tmps.getD r undef = .pointer (some ⟨c, 0, none⟩)) (hb : w.cell? ⟨b, 0, none⟩ = some (.int .i64 x)) (hc : w.cell? ⟨c, 0, none⟩ = some (.int .i64 y)) :
    (results fn tmps).run Try.prog w = .ok (.tuple #[.int .i64 x, .int .i64 y]) w := by
  have hp' : tmps[p]?.getD undef = .pointer (some ⟨b, 0, none⟩) := by simpa using hp
  have hr' : tmps[r]?.getD undef = .pointer (some ⟨c, 0, none⟩) := by simpa using hr
  simp [results, h, go_sem, hp', hr', hb, hc, Result.andThen]

set_option maxRecDepth 100000 in
set_option maxHeartbeats 4000000 in
theorem cycle_in (n : Nat) (hn : 3 ≤ n) {w : World} {ob : Nat} {A : Aut} {M : List (List Nat)} {N : List Nat} (h : MO w ob A M N) (i : Nat) (hi : i < M.length) :
    CallsIn Fence.wide n Try.prog 17 #[.pointer (some ⟨ob, 0, none⟩), .int .i64 i] w fun e w' => (∃ t r : Nat, e = .returned (.tuple #[.int .i64 (t : Nat), .int .i64 (r : Nat)]) ∧ TR (rm A.k.toNat N i) 0 t r) ∧ Below w.heap.size w w' := by
  have h1 : 1 ≤ n := by omega
  have HM0 : Hid (MO w ob A M N) := h
  have HMon : Hid (Mon A M N) := h.mon
  obtain ⟨i0, hi0, hz0, hz1, hz2⟩ := info_parts Try.info_int
  have hms := h.mon.most
  obtain ⟨m, hm⟩ : ∃ m, M.length = m := ⟨_, rfl⟩
  rw [hm] at hms hi
  have hmk := fun w0 => run_make (P := Try.prog) w0 22 3 i0 (.int .i64 0) Try.underlying22 hi0 hz0 .i64 .i64 (m : Int) (m : Int) (by omega) (by omega) (by rw [hz2]; omega) (by omega)
  rw [hz1] at hmk
  simp only [Nat.mul_one] at hmk
  have HMM : Hid (M.length = m) := hm
  obtain ⟨w2, hw2⟩ : ∃ w2, w2 = (w.alloc (.cells #[.int .i64 0] 3)).alloc (.cells #[.int .i64 0] 3) := ⟨_, rfl⟩
  have HB2 : Hid (Below w.heap.size w w2) := by show Below _ _ _; rw [hw2]; exact go_on (below_new _ _) (below_new _ _)
  have HW2 : Hid (w2 = (w.alloc (.cells #[.int .i64 0] 3)).alloc (.cells #[.int .i64 0] 3)) := hw2
  have HLN : Hid (Calls Try.prog 6 #[.pointer (some ⟨ob, 0, none⟩)] w2 fun e w' => e = .returned (.int .i64 (m : Nat)) ∧ w2 = w') := by
    have := mlen_any (h.below HB2.out)
    rw [hm] at this
    exact this
  clear h hw2 hm
  refine callsIn_of_wp_marks Try.func17 rfl trivial ?_ rfl
  simp only [Try.ntmps17, List.size_toArray, List.length_cons, List.length_nil, Nat.reduceAdd, Nat.reduceSub, Array.replicate_succ, Array.replicate_zero, List.push_toArray, List.append_toArray, List.nil_append, List.cons_append]
  gi_wp2
  rw [← HW2.out]
  refine ⟨trivial, ?_⟩
  refine (callsIn_wide.2 HLN.out).mono ?_
  rintro e w1 ⟨rfl, rfl⟩
  gi_wp2
  refine ⟨trivial, ?_⟩
  refine (callsIn_wide.2 (powers_any _ _ _)).mono ?_
  rintro e w3 ⟨rfl, rfl⟩
  clear hmk
  gi_wp2
  obtain ⟨q, hq⟩ : ∃ q, w2.heap.size = q := ⟨_, rfl⟩
  have hqw1 : q ≤ w.heap.size + 2 := by rw [← hq, HW2.out]; simp
  have hqw2 : w.heap.size + 2 ≤ q := by rw [← hq, HW2.out]; simp
  obtain ⟨U, hU⟩ : ∃ U, U = (((w2.alloc (.cells (madeCells #[.int .i64 0] m) 3)).alloc (.cells #[.slice (some ⟨w2.heap.size, 0, none⟩) m m] 22)).alloc (.cells #[.pointer (some ⟨ob, 0, none⟩)] 26)).alloc (.cells #[.int .i64 (i : Int)] 3) := ⟨_, rfl⟩
  have hUs : U.heap.size = q + 4 := by rw [hU]; simp [hq]
  have hB2U : Below w2.heap.size w2 U := by
    rw [hU]
    exact go_on (go_on (go_on (below_new _ _) (below_new _ _)) (below_new _ _)) (below_new _ _)
  have HBU : Hid (Below w.heap.size w U) := go_on HB2.out hB2U
  have HUa : Hid (U.heap[w.heap.size]? = some (.cells #[.int .i64 0] 3 (0, 0))) := by
    show _ = _
    rw [hB2U.block _ (by omega), HW2.out, heap_allo (by simp)]
    exact heap_last _ _
  have HUb : Hid (U.heap[w.heap.size + 1]? = some (.cells #[.int .i64 0] 3 (0, 0))) := by
    show _ = _
    rw [hB2U.block _ (by omega), HW2.out]
    have := heap_last (w.alloc (.cells #[.int .i64 0] 3)) (.cells #[.int .i64 0] 3)
    rwa [World.size_alloc] at this
  have HU0 : Hid (U.heap[q]? = some (.cells (nC (List.replicate m 0)).toArray 3 (0, 0))) := by
    show _ = _
    rw [hU, heap_allo (by simp <;> omega), heap_allo (by simp <;> omega), heap_allo (by simp <;> omega), ← hq, ← made_nC]
    exact heap_last _ _
  have HU1 : Hid (U.cell? ⟨q + 1, 0, none⟩ = some (.slice (some ⟨q, 0, none⟩) m m)) := by
    show _ = _
    have e : U.heap[q + 1]? = some (.cells #[.slice (some ⟨q, 0, none⟩) m m] 22 (0, 0)) := by
      subst hq
      rw [hU, heap_allo (by simp <;> omega), heap_allo (by simp <;> omega)]
      have := heap_last (w2.alloc (.cells (madeCells #[.int .i64 0] m) 3)) (.cells #[.slice (some ⟨w2.heap.size, 0, none⟩) m m] 22)
      rwa [World.size_alloc] at this
    exact cell_at e rfl
  have HU2 : Hid (U.cell? ⟨q + 1 + 1, 0, none⟩ = some (.pointer (some ⟨ob, 0, none⟩))) := by
    show _ = _
    have e : U.heap[q + 1 + 1]? = some (.cells #[.pointer (some ⟨ob, 0, none⟩)] 26 (0, 0)) := by
      subst hq
      rw [hU, heap_allo (by simp <;> omega)]
      have := heap_last ((w2.alloc (.cells (madeCells #[.int .i64 0] m) 3)).alloc (.cells #[.slice (some ⟨w2.heap.size, 0, none⟩) m m] 22)) (.cells #[.pointer (some ⟨ob, 0, none⟩)] 26)
      rwa [World.size_alloc, World.size_alloc] at this
    exact cell_at e rfl
  have HU3 : Hid (U.cell? ⟨q + 1 + 1 + 1, 0, none⟩ = some (.int .i64 (i : Nat))) := by
    show _ = _
    have e : U.heap[q + 1 + 1 + 1]? = some (.cells #[.int .i64 (i : Nat)] 3 (0, 0)) := by
      subst hq
      rw [hU]
      have := heap_last (((w2.alloc (.cells (madeCells #[.int .i64 0] m) 3)).alloc (.cells #[.slice (some ⟨w2.heap.size, 0, none⟩) m m] 22)).alloc (.cells #[.pointer (some ⟨ob, 0, none⟩)] 26)) (.cells #[.int .i64 (i : Int)] 3)
      rwa [World.size_alloc, World.size_alloc, World.size_alloc] at this
    exact cell_at e rfl
  rw [← hU]
  rw [hq]
  have hML := HMM.out
  have HHI : Hid (i < M.length) := by show _ < _; rw [hML]; exact hi
  clear hU hB2U hq HLN HW2 HB2
  refine rangeFunc_brk rfl h1 (gf := 63) (lb := #[.pointer (some ⟨q + 1 + 1, 0, none⟩), .pointer (some ⟨q + 1 + 1 + 1, 0, none⟩)]) rfl trivial (enters_of Try.func63 (by kernel_rfl) rfl)
    (val := pwV A.k.toNat N i) (S := (fun b => b < q + 4 ∧ b ≠ q ∧ b ≠ w.heap.size ∧ b ≠ w.heap.size + 1)) (N := M.length + 1) (w0 := U) (fun b hb => by omega)
    (powers_at (n - 1) (by omega) (q + 1 + 1) (q + 1 + 1 + 1) ob i A M N _ U (fun W hk => HM0.out.below (hk.base HBU.out (fun b hb => ⟨by omega, by omega, by omega, by omega⟩))) HHI.out HU2.out HU3.out ⟨by omega, by omega, by omega, by omega⟩ ⟨by omega, by omega, by omega, by omega⟩ (fun b hb => by omega)) (KS.refl _ _) (fun _ => rfl) 0
    (fun j W => KS (fun b => b < q + 4 ∧ b ≠ q ∧ b ≠ w.heap.size ∧ b ≠ w.heap.size + 1) U W ∧ W.heap[w.heap.size]? = some (.cells #[.int .i64 0] 3 (0, 0)) ∧ W.heap[w.heap.size + 1]? = some (.cells #[.int .i64 0] 3 (0, 0)) ∧ ∃ cs : List Nat, W.heap[q]? = some (.cells (nC cs).toArray 3 (0, 0)) ∧ Met A.k.toNat N i m j cs)
    (fun _ W => KS (fun b => b < q + 4 ∧ b ≠ q ∧ b ≠ w.heap.size ∧ b ≠ w.heap.size + 1) U W ∧ ∃ t r : Nat, W.heap[w.heap.size]? = some (.cells #[.int .i64 (t : Int)] 3 (0, 0)) ∧ W.heap[w.heap.size + 1]? = some (.cells #[.int .i64 (r : Int)] 3 (0, 0)) ∧ TR (rm A.k.toNat N i) 0 t r ∧ t < 1000 ∧ r < 1000)
    ?own1 ?own2 ?bel ?start (fun j a' W => (KS (fun b => b < q + 4 ∧ b ≠ q ∧ b ≠ w.heap.size ∧ b ≠ w.heap.size + 1) U W ∧ W.heap[w.heap.size]? = some (.cells #[.int .i64 0] 3 (0, 0)) ∧ W.heap[w.heap.size + 1]? = some (.cells #[.int .i64 0] 3 (0, 0)) ∧ ∃ cs : List Nat, W.heap[q]? = some (.cells (nC cs).toArray 3 (0, 0)) ∧ Met A.k.toNat N i m j cs) ∧ a' = { tmps := #[.pointer (some ⟨ob, 0, none⟩), .int .i64 (i : Nat), undef, undef, .pointer (some ⟨w.heap.size, 0, none⟩), .pointer (some ⟨w.heap.size + 1, 0, none⟩), .pointer (some ⟨q + 1, 0, none⟩), .int .i64 (j : Nat), .int .i64 (pwN A.k.toNat N i j : Nat), .pointer (some ⟨ob, 0, none⟩), .int .i64 (m : Nat), .slice (some ⟨q, 0, none⟩) m m, .pointer (some ⟨ob, 0, none⟩), .int .i64 (i : Nat), .func (.func 63) #[] #[.pointer (some ⟨q + 1 + 1, 0, none⟩), .pointer (some ⟨q + 1 + 1 + 1, 0, none⟩)], .int .i64 (j : Nat), .int .i64 (pwN A.k.toNat N i j : Nat), undef, undef, undef, undef, undef, undef, undef, undef, undef, undef, undef, undef, undef, undef, undef, undef, undef, undef, undef, undef], defers := [] }) ?own3 ?assign ?body ?done ?stop
  case own1 =>
    rintro j W W' row ⟨hk, hb1, hb2, cs, hcs, hm⟩ hg hr
    have hz := hk.size
    have hg' : ∀ b, b < q + 2 → W'.heap[b]? = W.heap[b]? := fun b hb => hg.block b (by omega) (fun e => by have := (hr b e.symm).1; omega)
    exact ⟨hk.grown hg (fun k e => by have := (hr k e).1; omega) (fun b hb => by omega), (hg' _ (by omega)).trans hb1, (hg' _ (by omega)).trans hb2, cs, (hg' _ (by omega)).trans hcs, hm⟩
  case own2 =>
    rintro j W W' row ⟨hk, t, r, hb1, hb2, hR⟩ hg hr
    have hz := hk.size
    have hg' : ∀ b, b < q + 2 → W'.heap[b]? = W.heap[b]? := fun b hb => hg.block b (by omega) (fun e => by have := (hr b e.symm).1; omega)
    exact ⟨hk.grown hg (fun k e => by have := (hr k e).1; omega) (fun b hb => by omega), t, r, (hg' _ (by omega)).trans hb1, (hg' _ (by omega)).trans hb2, hR⟩
  case bel =>
    rintro j W1 W' hz ⟨hk, hb1, hb2, cs, hcs, hm⟩ hbl
    exact ⟨hk.trans (KS.below (fun b hb => by omega) hbl), (hbl.block _ (by omega)).trans hb1, (hbl.block _ (by omega)).trans hb2, cs, (hbl.block _ (by omega)).trans hcs, hm⟩
  case start => exact ⟨KS.refl _ _, HUa.out, HUb.out, _, HU0.out, Met.start _ _ _ _⟩
  case own3 =>
    rintro j a' _ W W' row ⟨⟨hk, hb1, hb2, cs, hcs, hm⟩, e⟩ hg hr
    have hz := hk.size
    have hg' : ∀ b, b < q + 2 → W'.heap[b]? = W.heap[b]? := fun b hb => hg.block b (by omega) (fun e => by have := (hr b e.symm).1; omega)
    exact ⟨⟨hk.grown hg (fun k e => by have := (hr k e).1; omega) (fun b hb => by omega), (hg' _ (by omega)).trans hb1, (hg' _ (by omega)).trans hb2, cs, (hg' _ (by omega)).trans hcs, hm⟩, e⟩
  case assign =>
    intro l j W K hj hI hks hK
    have HK : Hid _ := hK
    have HI : Hid _ := hI
    unfold pwV
    clear hK hI hks hj
    gi_wp2
    exact HK.out _ _ ⟨Nat.le_refl _, fun k o _ hk ho => hk⟩ (KS.refl _ _) ⟨HI.out, rfl⟩
  case body =>
    rintro l j a' W hj ⟨⟨hk, hb1, hb2, cs, hcs, hmet⟩, rfl⟩ hks
    have hz := hk.size
    have HK : Hid (KS (fun b => b < q + 4 ∧ b ≠ q ∧ b ≠ w.heap.size ∧ b ≠ w.heap.size + 1) U W) := hk
    have HA : Hid (W.heap[w.heap.size]? = some (.cells #[.int .i64 0] 3 (0, 0))) := hb1
    have HB : Hid (W.heap[w.heap.size + 1]? = some (.cells #[.int .i64 0] 3 (0, 0))) := hb2
    have HCS : Hid (W.heap[q]? = some (.cells (nC cs).toArray 3 (0, 0))) := hcs
    have HMT : Hid (Met A.k.toNat N i m j cs) := hmet
    have hc6 : W.cell? ⟨q + 1, 0, none⟩ = some (.slice (some ⟨q, 0, none⟩) m m) := by
      rw [World.cell?_of_block (a := ⟨q + 1, 0, none⟩) (hk.block (q + 1) ⟨by omega, by omega, by omega, by omega⟩)]; exact HU1.out
    have HLT : Hid (j < M.length + 1) := hj
    obtain ⟨p, hp⟩ : ∃ p, pwN A.k.toNat N i j = p := ⟨_, rfl⟩
    have HP : Hid (pwN A.k.toNat N i j = p) := hp
    have hpl : p < m := by rw [← hp, ← hML]; exact HMon.out.pw_lt HHI.out j
    have hpI : (p : Int) < (m : Int) := by omega
    have hjm : j ≤ 512 := by omega
    obtain ⟨v, hv⟩ : ∃ v, cs[p]? = some v := ⟨_, List.getElem?_eq_getElem (by rw [hmet.len]; exact hpl)⟩
    have hcv : W.cell? ⟨q, p, none⟩ = some (.int .i64 (v : Nat)) := by
      rw [cell_of_row _ _ _ _ _ _ hcs]
      simp [nC, hv]
    have HV : Hid (cs[p]? = some v) := hv
    rw [hp]
    clear hk hb1 hb2 hcs hks hv hp hmet
    by_cases hv0 : v = 0
    · subst hv0
      have hwj : IntKind.i64.wrap ((j : Int) + 1) = ((j + 1 : Nat) : Int) := by rw [IntKind.wrap_i64]; omega
      have hfq : W.frozen? ⟨q, p, none⟩ = false := frz_at HCS.out
      have HST : Hid ((W.setCell ⟨q, p, none⟩ (.int .i64 ((j + 1 : Nat) : Int))).heap[q]? = some (.cells (nC (cs.set p (j + 1))).toArray 3 (0, 0))) := by
        show _ = _
        have e : (nC (cs.set p (j + 1))).toArray = (nC cs).toArray.setIfInBounds p (.int .i64 ((j + 1 : Nat) : Int)) := by
          apply Array.ext'
          simp [nC, List.map_set]
        rw [e]
        exact heap_set HCS.out
      obtain ⟨j1, hj1⟩ : ∃ j1, j + 1 = j1 := ⟨_, rfl⟩
      have HJ1 : Hid (j + 1 = j1) := hj1
      rw [hj1] at hwj HST
      clear hj1
      gi_wp2
      refine ⟨⟨by simp [World.setCell], fun k o hk1 hk ho => ?_⟩, (KS.refl _ _).set (by omega), HK.out.set (by omega), ?_, ?_, _, HST.out, ?_⟩
      · rw [heap_set_other (fun e => by omega)]
        exact hk
      · rw [heap_set_other (fun e => by omega)]; exact HA.out
      · rw [heap_set_other (fun e => by omega)]; exact HB.out
      · have q1 := HMT.out
        have q2 := q1.next (by rw [HP.out]; exact hpl) (by rw [HP.out]; exact HV.out)
        rw [HP.out, HJ1.out] at q2
        rw [HJ1.out]
        exact q2
    · have F := HMT.out.found (v := v) (by rw [HP.out]; exact HV.out) hv0
      have HTR : Hid (TR (rm A.k.toNat N i) 0 (v - 1) (j - (v - 1))) := F.2.2
      have hvj := F.1
      have hv1 := F.2.1
      have hvI : (0 : Int) < (v : Int) := by omega
      have hvd : decide ((0 : Int) < (v : Int)) = true := decide_eq_true hvI
      obtain ⟨t, ht⟩ : ∃ t, v - 1 = t := ⟨_, rfl⟩
      obtain ⟨r, hr⟩ : ∃ r, j - t = r := ⟨_, rfl⟩
      rw [ht, hr] at HTR
      have hw1 : IntKind.i64.wrap ((v : Int) - 1) = (t : Int) := by rw [IntKind.wrap_i64]; omega
      have hw2 : IntKind.i64.wrap ((j : Int) - (t : Int)) = (r : Int) := by rw [IntKind.wrap_i64]; omega
      have hca : W.cell? ⟨w.heap.size, 0, none⟩ = some (.int .i64 0) := cell_at HA.out rfl
      have hfa : W.frozen? ⟨w.heap.size, 0, none⟩ = false := frz_at HA.out
      have HA1 : Hid ((W.setCell ⟨w.heap.size, 0, none⟩ (.int .i64 (t : Int))).heap[w.heap.size]? = some (.cells #[.int .i64 (t : Int)] 3 (0, 0))) := heap_set HA.out
      have HB1 : Hid ((W.setCell ⟨w.heap.size, 0, none⟩ (.int .i64 (t : Int))).heap[w.heap.size + 1]? = some (.cells #[.int .i64 0] 3 (0, 0))) := by show _ = _; rw [heap_set_other (fun e => by omega)]; exact HB.out
      have hcb : (W.setCell ⟨w.heap.size, 0, none⟩ (.int .i64 (t : Int))).cell? ⟨w.heap.size + 1, 0, none⟩ = some (.int .i64 0) := cell_at HB1.out rfl
      have hfb : (W.setCell ⟨w.heap.size, 0, none⟩ (.int .i64 (t : Int))).frozen? ⟨w.heap.size + 1, 0, none⟩ = false := frz_at HB1.out
      have hca1 : (W.setCell ⟨w.heap.size, 0, none⟩ (.int .i64 (t : Int))).cell? ⟨w.heap.size, 0, none⟩ = some (.int .i64 (t : Int)) := cell_at HA1.out rfl
      have HTR2 : Hid (t < 1000 ∧ r < 1000) := by show _ ∧ _; omega
      clear F ht hr
      gi_wp2
      refine ⟨rfl, ⟨by simp [World.setCell], fun k o hk1 hk ho => ?_⟩, (HK.out.set (by omega)).set (by omega), t, r, ?_, heap_set HB1.out, HTR.out, HTR2.out⟩
      · rw [heap_set_other (fun e => by omega), heap_set_other (fun e => by omega)]
        exact hk
      · rw [heap_set_other (fun e => by omega)]; exact HA1.out
  case done =>
    rintro D W hD ⟨hk, hb1, hb2, cs, hcs, hmet⟩ hK
    rw [← hML] at hmet
    exact (hmet.done HMon.out HHI.out).elim
  case stop =>
    rintro D W hD ⟨hk, t, r, hb1, hb2, hR, hsm⟩ hKD
    have hz := hk.size
    have HK : Hid (KS (fun b => b < q + 4 ∧ b ≠ q ∧ b ≠ w.heap.size ∧ b ≠ w.heap.size + 1) U W) := hk
    have HX : Hid (TR (rm A.k.toNat N i) 0 t r) := hR
    have HKD : Hid (W.heap[D]? = some (.deferred (some []))) := hKD
    have HA : Hid (W.heap[w.heap.size]? = some (.cells #[.int .i64 (t : Int)] 3 (0, 0))) := hb1
    have HB : Hid (W.heap[w.heap.size + 1]? = some (.cells #[.int .i64 (r : Int)] 3 (0, 0))) := hb2
    have hca : W.cell? ⟨w.heap.size, 0, none⟩ = some (.int .i64 (t : Int)) := cell_at hb1 rfl
    have hcb : W.cell? ⟨w.heap.size + 1, 0, none⟩ = some (.int .i64 (r : Int)) := cell_at hb2 rfl
    have HA1 : Hid ((W.setCell ⟨w.heap.size, 0, none⟩ (.int .i64 (t : Int))).drew.heap[w.heap.size]? = some (.cells #[.int .i64 (t : Int)] 3 (0, 0))) := heap_set HA.out
    have HB1 : Hid ((W.setCell ⟨w.heap.size, 0, none⟩ (.int .i64 (t : Int))).drew.heap[w.heap.size + 1]? = some (.cells #[.int .i64 (r : Int)] 3 (0, 0))) := by show (W.setCell ⟨w.heap.size, 0, none⟩ (.int .i64 (t : Int))).heap[w.heap.size + 1]? = _; rw [heap_set_other (fun e => by omega)]; exact HB.out
    have d1 : W.drew.cell? ⟨w.heap.size, 0, none⟩ = some (.int .i64 (t : Int)) := hca
    have d2 : W.drew.cell? ⟨w.heap.size + 1, 0, none⟩ = some (.int .i64 (r : Int)) := hcb
    have d3 : W.drew.frozen? ⟨w.heap.size, 0, none⟩ = false := frz_at (w := W.drew) HA.out
    have d4 : (W.setCell ⟨w.heap.size, 0, none⟩ (.int .i64 (t : Int))).drew.cell? ⟨w.heap.size + 1, 0, none⟩ = some (.int .i64 (r : Int)) := cell_at HB1.out rfl
    have d5 : (W.setCell ⟨w.heap.size, 0, none⟩ (.int .i64 (t : Int))).drew.frozen? ⟨w.heap.size + 1, 0, none⟩ = false := frz_at HB1.out
    clear hk hb1 hb2 hR hKD hca hcb
    gi_wp2
    gi_region
    gi_wp2
    obtain ⟨Z, hZ⟩ : ∃ Z, ((W.setCell ⟨w.heap.size, 0, none⟩ (.int .i64 (t : Int))).setCell ⟨w.heap.size + 1, 0, none⟩ (.int .i64 (r : Int))).drew = Z := ⟨_, rfl⟩
    have hZD : Z.heap[D]? = some (.deferred (some [])) := by
      rw [← hZ]
      show ((W.setCell ⟨w.heap.size, 0, none⟩ (.int .i64 (t : Int))).setCell ⟨w.heap.size + 1, 0, none⟩ (.int .i64 (r : Int))).heap[D]? = _
      rw [heap_set_other (fun e => by omega), heap_set_other (fun e => by omega)]
      exact HKD.out
    have hZa : Z.cell? ⟨w.heap.size, 0, none⟩ = some (.int .i64 (t : Int)) := by
      rw [← hZ]
      have e : ((W.setCell ⟨w.heap.size, 0, none⟩ (.int .i64 (t : Int))).setCell ⟨w.heap.size + 1, 0, none⟩ (.int .i64 (r : Int))).drew.heap[w.heap.size]? = some (.cells #[.int .i64 (t : Int)] 3 (0, 0)) := by
        show ((W.setCell ⟨w.heap.size, 0, none⟩ (.int .i64 (t : Int))).setCell ⟨w.heap.size + 1, 0, none⟩ (.int .i64 (r : Int))).heap[w.heap.size]? = _
        rw [heap_set_other (fun e => by omega)]
        exact HA1.out
      exact cell_at e rfl
    have hZb : Z.cell? ⟨w.heap.size + 1, 0, none⟩ = some (.int .i64 (r : Int)) := by
      rw [← hZ]
      have e : ((W.setCell ⟨w.heap.size, 0, none⟩ (.int .i64 (t : Int))).setCell ⟨w.heap.size + 1, 0, none⟩ (.int .i64 (r : Int))).drew.heap[w.heap.size + 1]? = some (.cells #[.int .i64 (r : Int)] 3 (0, 0)) := heap_set (w := W.setCell ⟨w.heap.size, 0, none⟩ (.int .i64 (t : Int))) HB1.out
      exact cell_at e rfl
    have hBZ : Below w.heap.size w Z := by
      have b0 := HK.out.base HBU.out (fun b hb => ⟨by omega, by omega, by omega, by omega⟩)
      have b1 := (b0.setCell (p := ⟨w.heap.size, 0, none⟩) (Nat.le_refl _) (.int .i64 (t : Int))).setCell (p := ⟨w.heap.size + 1, 0, none⟩) (by show w.heap.size ≤ w.heap.size + 1; omega) (.int .i64 (r : Int))
      rw [← hZ]
      exact b1.drew
    rw [hZ]
    refine ⟨by simp, .inl ⟨_, _, rfl, run_takeDeferred hZD, ?_⟩⟩
    have hP : ∀ b, b ≠ D → (Z.putObj D (.deferred none)).heap[b]? = Z.heap[b]? := fun b hb => World.putObj_heap_other hb
    refine ⟨_, results_int2 rfl rfl rfl (by rw [World.cell?_of_block (hP _ (by show w.heap.size ≠ D; omega))]; exact hZa) (by rw [World.cell?_of_block (hP _ (by show w.heap.size + 1 ≠ D; omega))]; exact hZb), ⟨t, r, rfl, HX.out⟩, ?_⟩
    exact hBZ.grown (grownBy_putObj' Z D _) (by have := hBZ.size; omega) (fun k e => by cases e; omega)

theorem cycle_any {w : World} {ob : Nat} {A : Aut} {M : List (List Nat)} {N : List Nat} (h : MO w ob A M N) (i : Nat) (hi : i < M.length) :
    Calls Try.prog 17 #[.pointer (some ⟨ob, 0, none⟩), .int .i64 i] w fun e w' => (∃ t r : Nat, e = .returned (.tuple #[.int .i64 (t : Nat), .int .i64 (r : Nat)]) ∧ TR (rm A.k.toNat N i) 0 t r) ∧ Below w.heap.size w w' :=
  callsIn_wide.1 (cycle_in 3 (by omega) h i hi)

set_option maxHeartbeats 1000000 in
set_option maxRecDepth 100000 in
theorem iCycle_any {w : World} {ob : Nat} {A : Aut} {M : List (List Nat)} {N : List Nat} (h : MO w ob A M N) (i : Nat) (hi : i < M.length) :
    Calls Try.prog 7 #[.pointer (some ⟨ob, 0, none⟩), .int .i64 i] w fun e w' => (∃ t r : Nat, e = .returned (.tuple #[.int .i64 (t : Nat), .int .i64 (r : Nat), .int .i64 0]) ∧ TR (rm A.k.toNat N i) 0 t r) ∧ Below w.heap.size w w' := by
  have HC : Hid _ := icheck_one h i
  rw [if_pos (show hasE M.length (i : Int) = true from decide_eq_true ⟨by omega, by omega⟩)] at HC
  have HB1 : Hid (Below w.heap.size w (w.alloc (.cells #[.int .i64 (i : Int)] 3))) := below_new _ _
  have HY : Hid _ := cycle_any (h.below HB1.out) i hi
  clear h
  go_enter Try.func7, Try.ntmps7
  go_wp2_with fail
  refine Calls.mono HC.out ?_
  rintro e w1 ⟨rfl, rfl⟩
  go_wp2_with fail
  refine Calls.mono HY.out ?_
  rintro e w2 ⟨⟨t, r, rfl, hR⟩, hb⟩
  have HR : Hid (TR (rm A.k.toNat N i) 0 t r) := hR
  have HB : Hid (Below w.heap.size w w2) := go_on HB1.out hb
  clear hb hR
  go_wp2_with fail
  go_ret3
  exact ⟨⟨t, r, rfl, HR.out⟩, HB.out⟩

set_option maxHeartbeats 1000000 in
set_option maxRecDepth 100000 in
theorem iCycle_not {w : World} {ob : Nat} {A : Aut} {M : List (List Nat)} {N : List Nat} (h : MO w ob A M N) (i : Int) (hi : ¬ hasE M.length i = true) :
    Calls Try.prog 7 #[.pointer (some ⟨ob, 0, none⟩), .int .i64 i] w fun e w' => e = .returned (.tuple #[.int .i64 0, .int .i64 0, .int .i64 11]) ∧ Below w.heap.size w w' := by
  have HC : Hid _ := icheck_one h i
  rw [if_neg hi] at HC
  have HB1 : Hid (Below w.heap.size w (w.alloc (.cells #[.int .i64 i] 3))) := below_new _ _
  clear h
  go_enter Try.func7, Try.ntmps7
  go_wp2_with fail
  refine Calls.mono HC.out ?_
  rintro e w1 ⟨rfl, rfl⟩
  go_wp2_with fail
  go_ret3
  exact ⟨rfl, HB1.out⟩
end Go.Proofs.Ytlohfeogaalfcab

namespace Go.Proofs.Ytlohfeogaalfcab
set_option linter.unusedVariables false

/-- Fast powers are powers. -/
theorem Mon.pwE_is {A : Aut} {M : List (List Nat)} {N : List Nat} (h : Mon A M N) : ∀ (n o i : Nat), o < M.length → i < M.length → pwE A.k.toNat N o i n = Go.Proofs.Ytlohfeogaalfcab.pr A.k.toNat N o (pwN A.k.toNat N i n) := by
  intro n
  induction n using Nat.strongRecOn with
  | _ n ih =>
    intro o i ho hi
    by_cases h0 : n = 0
    · subst h0
      rw [pwE_zero]; rfl
    · have e2 : Go.Proofs.Ytlohfeogaalfcab.pr A.k.toNat N i i = pwN A.k.toNat N i 2 := by
        rw [show (2 : Nat) = 1 + 1 from rfl, h.pw_add hi, h.pw_one hi]
      have hii : Go.Proofs.Ytlohfeogaalfcab.pr A.k.toNat N i i < M.length := h.pr_lt hi hi
      by_cases hc : n % 2 = 1
      · rw [pwE_odd hc, ih (n / 2) (by omega) _ _ (h.pr_lt ho hi) hii, e2, h.pw_mul hi, h.assoc ho hi (h.pw_lt hi _)]
        congr 1
        have q := h.pw_add hi 1 (2 * (n / 2))
        rw [h.pw_one hi] at q
        rw [← q]
        congr 1
        omega
      · rw [pwE_even h0 hc, ih (n / 2) (by omega) _ _ ho hii, e2, h.pw_mul hi]
        congr 2
        omega

theorem Mon.pwE_pw {A : Aut} {M : List (List Nat)} {N : List Nat} (h : Mon A M N) {i : Nat} (hi : i < M.length) (n : Nat) : pwE A.k.toNat N 0 i n = pwN A.k.toNat N i n := by
  rw [h.pwE_is n 0 i h.pos hi, h.one_pr (h.pw_lt hi n)]

end Go.Proofs.Ytlohfeogaalfcab

namespace Go.Proofs.Ytlohfeogaalfcab
open Go Go.RowKit Go.Lib Go.Maps
set_option linter.unusedVariables false
attribute [-instance] List.instBEq instBEqProd

set_option maxHeartbeats 1000000 in
set_option maxRecDepth 100000 in
theorem mpower_not {w : World} {ob : Nat} {A : Aut} {M : List (List Nat)} {N : List Nat} (h : MO w ob A M N) {i : Int} (hi : ¬ hasE M.length i = true) (n : Nat) : Calls Try.prog 72 #[.pointer (some ⟨ob, 0, none⟩), .int .i64 i, .int .u64 n] w fun e w' => e = .returned (.tuple #[.int .i64 0, .int .i64 11]) ∧ w = w' := by
  have C0 : Hid _ := mcheck_not h hi
  clear h hi
  go_enter Try.func72, Try.ntmps72
  go_wp2_with fail
  refine Calls.mono C0.out ?_
  rintro e w1 ⟨rfl, rfl⟩
  go_wp2_with fail
  go_ret2
  exact ⟨rfl, rfl⟩

/-- The products' table is read. -/
theorem mgrid_ok {w : World} {ob : Nat} {A : Aut} {M : List (List Nat)} {N : List Nat} (h : MO w ob A M N) : ∃ R d n c : Nat, w.cell? ⟨ob, 11, none⟩ = some (.int .i64 (n : Int)) ∧ w.cell? ⟨ob, 12, none⟩ = some (.slice (some ⟨R, d, none⟩) c c) ∧ ∀ y i j, Below w.heap.size w y → i < M.length → j < M.length → Calls Try.prog 53 #[.agg #[.int .i64 (n : Int), .slice (some ⟨R, d, none⟩) c c], .int .i64 (i : Nat), .int .i64 (j : Nat)] y fun e w' => e = .returned (.int .i64 (pr A.k.toNat N i j : Nat)) ∧ Below y.heap.size y w' := by
  obtain ⟨base, bt, b, mb, gw, ga, R, n, a, c, d, vl, D, an, cn, aa, ca, h⟩ := h
  refine ⟨R, d, n, c, cell_at h.box rfl, cell_at h.box rfl, fun y i j hy hi hj => ?_⟩
  have hnm := h.num
  have hms := h.mon.most
  have hcell := h.rt.prod (i := i) (j := j) (by omega) (by omega) trivial
  rw [hnm.2.1, hnm.2.2.2] at hcell
  have hp := h.mon.pr_lt hi hj
  have hn2 : n * n ≤ 512 * 512 := Nat.mul_le_mul (by omega) (by omega)
  refine gat_any R d n i j c c (i * n) (pr A.k.toNat N i j) rfl ?_ (by omega) (by omega) y ?_ (Nat.lt_of_lt_of_le h.rt.lt hy.size)
  · rw [← hnm.2.2.1]; exact idx_lt (by omega) (by omega)
  · rw [below_cellJ hy h.rt.lt]
    exact hcell

set_option maxHeartbeats 2000000 in
set_option maxRecDepth 100000 in
theorem mpower_ok {w : World} {ob : Nat} {A : Aut} {M : List (List Nat)} {N : List Nat} (h : MO w ob A M N) (i : Nat) (hi : i < M.length) (n : Nat) (hn : n < 18446744073709551616) : Calls Try.prog 72 #[.pointer (some ⟨ob, 0, none⟩), .int .i64 i, .int .u64 n] w fun e w' => e = .returned (.tuple #[.int .i64 (pwE A.k.toNat N 0 i n : Nat), .int .i64 0]) ∧ Below w.heap.size w w' := by
  have H : Hid (MO w ob A M N) := h
  have C0 : Hid (Calls Try.prog 81 #[.pointer (some ⟨ob, 0, none⟩), .int .i64 (i : Int)] w fun e w' => e = .returned (.int .i64 0) ∧ w = w') := mcheck_is h (decide_eq_true ⟨by omega, by omega⟩)
  obtain ⟨R, d, m, c, k1, k2, k3⟩ := mgrid_ok h
  have HK : Hid (∀ y, Below w.heap.size w y → y.cell? ⟨ob, 11, none⟩ = some (.int .i64 (m : Int)) ∧ y.cell? ⟨ob, 12, none⟩ = some (.slice (some ⟨R, d, none⟩) c c)) := fun y hy => by
    have hlt : ob < w.heap.size := World.block_lt_of_cell? w ⟨ob, 11, none⟩ k1
    exact ⟨by rw [below_cellJ hy hlt]; exact k1, by rw [below_cellJ hy hlt]; exact k2⟩
  have HG : Hid (∀ y i j, Below w.heap.size w y → i < M.length → j < M.length → Calls Try.prog 53 #[.agg #[.int .i64 (m : Int), .slice (some ⟨R, d, none⟩) c c], .int .i64 (i : Nat), .int .i64 (j : Nat)] y fun e w' => e = .returned (.int .i64 (pr A.k.toNat N i j : Nat)) ∧ Below y.heap.size y w') := k3
  obtain ⟨_, _, _, _, _, _, _, _, _, _, _, _, _, _, _, _, _, h0⟩ := h
  have HMon : Hid (Mon A M N) := h0.mon
  clear h0 k1 k2 k3
  go_enter Try.func72, Try.ntmps72
  go_wp2_with fail
  refine C0.out.mono ?_
  rintro e w1 ⟨rfl, rfl⟩
  go_wp2_with fail
  go_loopw [2, 9, 10] (fun vn vo vi wr => ∃ i' n' o : Nat, vi = .int .i64 i' ∧ vn = .int .u64 n' ∧ vo = .int .i64 o ∧ i' < M.length ∧ o < M.length ∧ n' < 18446744073709551616 ∧ pwE A.k.toNat N o i' n' = pwE A.k.toNat N 0 i n ∧ Below w.heap.size w wr) (fun vn _ _ _ => (Go.RowKit.intOf vn).toNat)
  case atStart => exact ⟨i, n, 0, rfl, rfl, rfl, hi, HMon.out.pos, hn, rfl, Below.refl _ _⟩
  case round =>
    obtain ⟨i', n', o, rfl, rfl, rfl, hi', ho, hn', he, hb⟩ := hrel
    have HB : Hid (Below w.heap.size w wr) := hb
    have HE : Hid (pwE A.k.toNat N o i' n' = pwE A.k.toNat N 0 i n) := he
    have cs := HK.out wr hb
    clear hb he
    by_cases h0 : n' = 0
    · subst h0
      go_wp2_with fail
      go_ret2
      exact ⟨by rw [← HE.out, pwE_zero]; rfl, HB.out⟩
    · have h0I : (0 : Int) < n' := by omega
      have hand : bits .and .u64 (n' : Int) 1 = ((n' % 2 : Nat) : Int) := by
        have := bits_and_u64_nat n' 1 hn' (by decide)
        rw [Nat.and_one_is_mod] at this
        exact this
      have HDV : Hid ((n' : Int) / 2 = ((n' / 2 : Nat) : Int)) := by show _ = _; omega
      have HD : Hid (n' / 2 < n' ∧ n' / 2 < 18446744073709551616) := ⟨by omega, by omega⟩
      have HO : Hid (o < M.length ∧ i' < M.length) := ⟨ho, hi'⟩
      by_cases hodd : n' % 2 = 1
      · rw [hodd] at hand
        have HN : Hid (pwE A.k.toNat N (pr A.k.toNat N o i') (pr A.k.toNat N i' i') (n' / 2) = pwE A.k.toNat N 0 i n) := by show _ = _; rw [← HE.out, pwE_odd hodd]
        clear hodd
        go_wp2_with fail
        refine (HG.out _ o i' HB.out HO.out.1 HO.out.2).mono ?_
        rintro e y1 ⟨rfl, hb⟩
        have HB1 : Hid (Below w.heap.size w y1) := go_on HB.out hb
        have cs1 := HK.out y1 HB1.out
        clear hb
        go_wp2_with fail
        refine (HG.out _ i' i' HB1.out HO.out.2 HO.out.2).mono ?_
        rintro e y2 ⟨rfl, hb⟩
        have HB2 : Hid (Below w.heap.size w y2) := go_on HB1.out hb
        clear hb
        go_wp2_with fail
        go_roundw
        case rel => exact ⟨_, n' / 2, _, rfl, by rw [← HDV.out] <;> simp, rfl, HMon.out.pr_lt HO.out.2 HO.out.2, HMon.out.pr_lt HO.out.1 HO.out.2, HD.out.2, HN.out, HB2.out⟩
        case measure => have := HD.out; simp [Go.RowKit.intOf]; omega
      · have hev : n' % 2 = 0 := by omega
        rw [hev] at hand
        have HN : Hid (pwE A.k.toNat N (o) (pr A.k.toNat N i' i') (n' / 2) = pwE A.k.toNat N 0 i n) := by show _ = _; rw [← HE.out, pwE_even h0 hodd]
        clear hodd
        go_wp2_with fail
        have HB1 : Hid (Below w.heap.size w wr) := HB.out
        refine (HG.out _ i' i' HB1.out HO.out.2 HO.out.2).mono ?_
        rintro e y2 ⟨rfl, hb⟩
        have HB2 : Hid (Below w.heap.size w y2) := go_on HB1.out hb
        clear hb
        go_wp2_with fail
        go_roundw
        case rel => exact ⟨_, n' / 2, _, rfl, by rw [← HDV.out] <;> simp, rfl, HMon.out.pr_lt HO.out.2 HO.out.2, HO.out.1, HD.out.2, HN.out, HB2.out⟩
        case measure => have := HD.out; simp [Go.RowKit.intOf]; omega

end Go.Proofs.Ytlohfeogaalfcab
