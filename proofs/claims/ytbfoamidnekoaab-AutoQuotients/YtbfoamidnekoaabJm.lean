/- slices.Index of bools; slices.Backward of numbers; auto.firstWays: the first places of the states. -/
import Derived.Test.YtbfoamidnekoaabJl
import Derived.Test.YtbfoamidnekoaabRg
namespace Go.Proofs.Ytbfoamidnekoaab
open Go Go.RowKit Go.Shelf Go.Lib
set_option linter.unusedVariables false

attribute [local go_sem] Oper.semAt_some

/-- What Index answers of true. -/
def ixB (bs : List Bool) : Int := if true ∈ bs then (bs.idxOf true : Int) else -1

set_option maxHeartbeats 1000000 in
set_option maxRecDepth 100000 in
theorem index_any (a : Option Addr) (cap : Nat) (bs : List Bool) (w : World) (h : SR w a (bC bs)) (hm : bs.length ≤ 9223372036854775806) :
    Calls Try.prog 44 #[.slice a bs.length cap, .bool true] w fun e w' => e = .returned (.int .i64 (ixB bs)) ∧ w' = w := by
  have H : Hid (SR w a (bC bs)) := h
  clear h
  go_enter Try.func44, Try.ntmps44
  go_wp2_with fail
  go_loopw [8] (fun vi wr => ∃ i : Nat, vi = .int .i64 i ∧ i ≤ bs.length ∧ (∀ t, t < i → bs[t]? = some false) ∧ wr = w) (fun vi _ => bs.length - (intOf vi).toNat)
  case atStart => exact ⟨0, rfl, Nat.zero_le _, fun t ht => by omega, rfl⟩
  case round =>
    obtain ⟨i, rfl, hi, hall, rfl⟩ := hrel
    have HA : Hid (∀ t, t < i → bs[t]? = some false) := hall
    clear hall
    by_cases hlt : i < bs.length
    · have hiI : (i : Int) < bs.length := by omega
      obtain ⟨g, o, rfl, hg, hc⟩ := H.out.bool hlt
      obtain ⟨d, hd⟩ : ∃ d, bs.getD i false = d := ⟨_, rfl⟩
      rw [hd] at hc
      have HD : Hid (bs[i]? = some d) := by
        show _ = _
        rw [List.getElem?_eq_getElem hlt]
        rw [List.getD_eq_getElem?_getD, List.getElem?_eq_getElem hlt, Option.getD_some] at hd
        rw [hd]
      clear hd
      cases d with
      | true =>
        have HE : Hid (ixB bs = (i : Int)) := by
          show _ = _
          unfold ixB
          rw [if_pos (List.mem_of_getElem? HD.out)]
          congr 1
          have hmem := List.mem_of_getElem? HD.out
          have h1 := List.idxOf_lt_length_of_mem hmem
          have h2 : bs[bs.idxOf true]? = some true := idxOf_get hmem
          by_cases c : bs.idxOf true < i
          · rw [HA.out _ c] at h2; cases h2
          · by_cases c2 : i < bs.idxOf true
            · have h3 := List.not_of_lt_findIdx (p := (· == true)) (xs := bs) (i := i) (by exact c2)
              have h4 := HD.out
              rw [List.getElem?_eq_getElem hlt, Option.some.injEq] at h4
              rw [h4] at h3
              simp at h3
            · omega
        go_wp2_with fail
        go_ret
        exact ⟨ret_int HE.out.symm, rfl⟩
      | false =>
        go_wp2_with fail
        go_roundw
        case rel =>
          refine ⟨i + 1, by go_num, by omega, fun t ht => ?_, trivial⟩
          by_cases e : t = i
          · rw [e]; exact HD.out
          · exact HA.out t (by omega)
        case measure => simp [intOf]; omega
    · have hiI : ¬ (i : Int) < bs.length := by omega
      have HE : Hid (ixB bs = -1) := by
        show _ = _
        unfold ixB
        rw [if_neg (fun hm => ?_)]
        obtain ⟨t, ht, e⟩ := List.mem_iff_getElem.1 hm
        have := HA.out t (by omega)
        rw [List.getElem?_eq_getElem ht, e] at this
        cases this
      go_wp2_with fail
      go_ret
      exact ⟨ret_int HE.out.symm, rfl⟩

/-- The values of round j. -/
def bwI (L : List Int) (j : Nat) : Array Value := #[.int .i64 ((L.length - 1 - j : Nat) : Int), .int .i64 (L.getD (L.length - 1 - j) 0)]

set_option maxRecDepth 100000 in
set_option maxHeartbeats 2000000 in
theorem backwardI_at (n : Nat) (hn : 1 ≤ n) (B : Nat) (a : Option Addr) (c : Nat) (L : List Int) (w : World) (hB : w.cell? ⟨B, 0, none⟩ = some (.slice a L.length c)) (hS : SR w a (zC L)) (Bs : List Nat) (hBs : B ∈ Bs) (hg : ∀ g o, a = some ⟨g, o, none⟩ → g ∈ Bs)
    (hl : L.length ≤ 32768) :
    IterAt Fence.wide n Try.prog 63 #[.pointer (some ⟨B, 0, none⟩)] (bwI L) Bs L.length w := by
  intro l J Jx W hW hY h0
  have HS : Hid (∀ i, i < L.length → ∀ W', Kept Bs W W' → ∃ g o, a = some ⟨g, o, none⟩ ∧ W'.cell? ⟨g, o + i, none⟩ = some (.int .i64 (L.getD i 0))) := fun i hi W' hb => by
    obtain ⟨g, o, e, hlt, hc⟩ := hS.int hi
    have hb2 : W'.heap[g]? = w.heap[g]? := (hb g (hg g o e)).trans (hW.block g hlt)
    exact ⟨g, o, e, by rw [World.cell?_of_block (a := ⟨g, o + i, none⟩) hb2]; exact hc⟩
  have HBX : Hid (∀ W', Kept Bs W W' → W'.cell? ⟨B, 0, none⟩ = some (.slice a L.length c)) := fun W' hb => by
    have hg : B < w.heap.size := World.block_lt_of_cell? w _ hB
    rw [World.cell?_of_block (a := ⟨B, 0, none⟩) ((hb B hBs).trans (hW.block B hg))]; exact hB
  have HY : Hid _ := hY
  have H0 : Hid (J 0 W) := h0
  have hx0 := HBX.out W (Kept.refl _ _)
  clear hY h0 hB hS hW hg hBs
  refine callsIn_of_wp Try.func63 rfl trivial ?_ rfl
  simp only [Try.ntmps63, List.size_toArray, List.length_cons, List.length_nil, Nat.reduceAdd, Nat.reduceSub, Array.replicate_succ, Array.replicate_zero, List.push_toArray, List.append_toArray, List.nil_append, List.cons_append]
  gi_wp2
  clear hx0
  gi_loopw [3] (fun k wr => ∃ j : Nat, j ≤ L.length ∧ k = .int .i64 ((L.length : Int) - 1 - j) ∧ J j wr ∧ Kept Bs W wr) (fun k _ => (intOf k + 1).toNat)
  case atStart => exact ⟨0, Nat.zero_le _, by go_num, H0.out, Kept.refl _ _⟩
  case round =>
    obtain ⟨j, hj, rfl, hJ, hB⟩ := hrel
    have HJ : Hid (J j wr) := hJ
    have HB : Hid (Kept Bs W wr) := hB
    clear hJ hB
    by_cases hlt : j < L.length
    · have hx := HBX.out wr HB.out
      obtain ⟨g, o, rfl, hc1⟩ := HS.out (L.length - 1 - j) (by omega) wr HB.out
      obtain ⟨fn, tmps, assign, body, hy, hR⟩ := HY.out j wr hlt HJ.out
      unfold bwI at hy
      obtain ⟨i, hi⟩ : ∃ i, L.length - 1 - j = i := ⟨_, rfl⟩
      rw [hi] at hc1 hy
      have e : (L.length : Int) - 1 - j = (i : Int) := by omega
      have HE : Hid ((L.length : Int) - 1 - j = (i : Int)) := e
      rw [e]
      have hiL : (i : Int) < L.length := by omega
      obtain ⟨y, hyv⟩ : ∃ y, L.getD i 0 = y := ⟨_, rfl⟩
      rw [hyv] at hc1 hy
      have HR : Hid (RoundIn Fence.wide (n - 1) Try.prog l fn tmps assign body wr _) := hR
      have HLT : Hid (j < L.length) := hlt
      clear hR hyv hi e
      gi_wp2
      refine HR.out.mono ?_
      clear HR hy hx hc1
      rintro e W3 (⟨rfl, hJ3, hk3⟩ | ⟨rfl, hJx3⟩)
      · have HJ3 : Hid _ := hJ3
        have HK3 : Hid _ := hk3
        clear hJ3 hk3
        gi_wp2
        go_roundw
        case rel =>
          have h1 : j < L.length := HLT.out
          have h2 : (L.length : Int) - 1 - j = i := HE.out
          exact ⟨j + 1, h1, by go_num, HJ3.out, HB.out.trans HK3.out⟩
        case measure => simp [intOf]
      · have HJx3 : Hid _ := hJx3
        clear hJx3
        gi_wp2
        refine bodyPost_ret (results_none rfl _ _ _) rfl ?_
        exact ⟨⟨_, rfl⟩, .inr HJx3.out⟩
    · have e : (L.length : Int) - 1 - j = -1 := by omega
      have HE : Hid (j = L.length) := by show _ = _; omega
      rw [e]
      gi_wp2
      go_end0
      refine ⟨⟨_, rfl⟩, .inl ?_⟩
      rw [← HE.out]
      exact HJ.out
theorem backwardI_any (a : Option Addr) (n c : Nat) (w : World) : Calls Try.prog 62 #[.slice a n c] w fun e w' => e = .returned (.func (.func 63) #[] #[.pointer (some ⟨w.heap.size, 0, none⟩)]) ∧ w' = w.alloc (.cells #[.slice a n c] 22) := by
  go_enter Try.func62, Try.ntmps62
  go_wp2_with fail
  go_ret
  exact ⟨rfl, rfl⟩
end Go.Proofs.Ytbfoamidnekoaab
