/- terms.checkValues of words. -/
import Derived.Test.YthhlamehbcidgaaY56
namespace Go.Proofs.Ythhlamehbcidgaa
open Go Go.RowKit Go.Lib
set_option linter.unusedVariables false

/-- Strings as they lie in memory. -/
def StR (w : World) (v : Value) (Ws : List ByteArray) : Prop :=
  ∃ a cap, v = .slice a Ws.length cap ∧ ∀ i, i < Ws.length → ∃ g o, a = some ⟨g, o, none⟩ ∧ g < w.heap.size ∧ w.cell? ⟨g, o + i, none⟩ = some (.string (Ws.getD i ⟨#[]⟩))
theorem StR.below {w w' : World} {v : Value} {Ws : List ByteArray} (h : StR w v Ws) (hb : Below w.heap.size w w') : StR w' v Ws := by
  obtain ⟨a, cap, rfl, hr⟩ := h
  refine ⟨a, cap, rfl, fun i hi => ?_⟩
  obtain ⟨g, o, e, hg, h1⟩ := hr i hi
  exact ⟨g, o, e, Nat.lt_of_lt_of_le hg hb.size, by rw [below_cell hb hg]; exact h1⟩
theorem StR.len {w : World} {v : Value} {Ws : List ByteArray} (h : StR w v Ws) : ∃ a cap, v = .slice a Ws.length cap := by
  obtain ⟨a, cap, rfl, _⟩ := h
  exact ⟨a, cap, rfl⟩
theorem below_newF (w : World) (o : Obj) : Below w.heap.size w (w.alloc o) := below_new w o
def plN (b : UInt8) : Nat := (plI b.toNat).toNat
theorem xyz_pl : ∀ b ∈ xyz4, 0 ≤ plI b.toNat ∧ plI b.toNat < 4 := by decide +kernel
theorem vbs_mem {Ls : List (List (Int × Nat))} {b : UInt8} (h : b ∈ vbs Ls 4) : b ∈ xyz4 := by
  unfold vbs at h
  exact (List.mem_filter.1 h).1
/-- What checkValues tells: of the places that occur, n values, what may tells of each. -/
def cvE (bs : List UInt8) (n : Nat) (mv : Nat → Int) : Int := if (bs.any fun b => decide (n ≤ plN b)) = true then 3 else ((bs.map fun b => mv (plN b)).find? fun e => e != 0).getD 0
theorem cv_three {bs : List UInt8} {n : Nat} {mv : Nat → Int} {i : Nat} (hi : i < bs.length) (h : n ≤ plN (bs.getD i 0)) : cvE bs n mv = 3 := by
  unfold cvE
  rw [if_pos]
  rw [List.any_eq_true]
  rw [List.getD_eq_getElem?_getD, List.getElem?_eq_getElem hi, Option.getD_some] at h
  exact ⟨_, List.getElem_mem hi, decide_eq_true h⟩
theorem cv_in {bs : List UInt8} {n : Nat} {mv : Nat → Int} (h : ∀ i, i < bs.length → plN (bs.getD i 0) < n) : cvE bs n mv = ((bs.map fun b => mv (plN b)).find? fun e => e != 0).getD 0 := by
  unfold cvE
  rw [if_neg]
  rw [List.any_eq_true]
  rintro ⟨b, hb, hq⟩
  obtain ⟨i, hi, e⟩ := List.getElem_of_mem hb
  have := h i hi
  rw [List.getD_eq_getElem?_getD, List.getElem?_eq_getElem hi, Option.getD_some, e] at this
  have h2 := of_decide_eq_true hq
  omega
theorem find_first : ∀ (l : List Int) (i : Nat) (e : Int), l[i]? = some e → e ≠ 0 → (∀ j, j < i → l[j]? = some 0) → (l.find? fun e => e != 0) = some e
  | [], i, e, h, _, _ => by simp at h
  | a :: l, 0, e, h, he, _ => by
    simp only [List.getElem?_cons_zero, Option.some.injEq] at h
    subst h
    rw [List.find?_cons_of_pos]
    rw [bne_iff_ne]
    exact he
  | a :: l, i + 1, e, h, he, hj => by
    have h0 := hj 0 (by omega)
    simp only [List.getElem?_cons_zero, Option.some.injEq] at h0
    subst h0
    rw [List.find?_cons_of_neg (by simp)]
    exact find_first l i e (by simpa using h) he (fun j hj' => by have := hj (j + 1) (by omega); simpa using this)
theorem cv_first {bs : List UInt8} {n : Nat} {mv : Nat → Int} (h : ∀ i, i < bs.length → plN (bs.getD i 0) < n) {i : Nat} (hi : i < bs.length) (he : mv (plN (bs.getD i 0)) ≠ 0) (hj : ∀ j, j < i → mv (plN (bs.getD j 0)) = 0) : cvE bs n mv = mv (plN (bs.getD i 0)) := by
  rw [cv_in h, find_first _ i (mv (plN (bs.getD i 0))) ?_ he ?_]
  · rfl
  · rw [List.getElem?_map, List.getElem?_eq_getElem hi, List.getD_eq_getElem?_getD, List.getElem?_eq_getElem hi]
    rfl
  · intro j hj'
    have := hj j hj'
    rw [List.getElem?_map, List.getElem?_eq_getElem (by omega)]
    rw [List.getD_eq_getElem?_getD, List.getElem?_eq_getElem (by omega)] at this
    exact congrArg some this
theorem cv_none {bs : List UInt8} {n : Nat} {mv : Nat → Int} (h : ∀ i, i < bs.length → plN (bs.getD i 0) < n) (hj : ∀ j, j < bs.length → mv (plN (bs.getD j 0)) = 0) : cvE bs n mv = 0 := by
  rw [cv_in h]
  have : ((bs.map fun b => mv (plN b)).find? fun e => e != 0) = none := by
    rw [List.find?_eq_none]
    intro e he
    obtain ⟨b, hb, rfl⟩ := List.mem_map.1 he
    obtain ⟨i, hi, e2⟩ := List.getElem_of_mem hb
    have := hj i hi
    rw [List.getD_eq_getElem?_getD, List.getElem?_eq_getElem hi, Option.getD_some, e2] at this
    simp [this]
  rw [this]
  rfl

set_option maxHeartbeats 1000000 in
set_option maxRecDepth 100000 in
theorem isWord_any (k : Int) (s : ByteArray) (KB : Nat) (w : World) (h : w.cell? ⟨KB, 0, none⟩ = some (.int .i64 k)) :
    Calls Try.prog 42 #[.string s, .pointer (some ⟨KB, 0, none⟩)] w fun e w' => e = .returned (.int .i64 (chk k s)) ∧ Below w.heap.size w w' := by
  go_enter Try.func42, Try.ntmps42
  go_wp2_with fail
  refine (check_any _ _ _).mono ?_
  rintro e w1 ⟨rfl, hb⟩
  have HB : Hid (Below w.heap.size w w1) := hb
  clear hb h
  go_wp2_with fail
  go_ret
  exact ⟨rfl, HB.out⟩

set_option maxHeartbeats 8000000 in
set_option maxRecDepth 100000 in
theorem checkVS_any (v vx : Value) (L : List (Int × Nat)) (Ws : List ByteArray) (k : Int) (KB : Nat) (w : World) (h : SgR w v L) (hL : L.length ≤ 9223372036854775000) (hx : StR w vx Ws) (hW : Ws.length ≤ 9223372036854775000) (hk : w.cell? ⟨KB, 0, none⟩ = some (.int .i64 k)) (hkl : KB < w.heap.size) :
    Calls Try.prog 43 #[v, vx, .func (Fn.func 42) #[] #[.pointer (some ⟨KB, 0, none⟩)]] w fun e w' => e = .returned (.int .i64 (cvE (vbs [L] 4) Ws.length fun p => chk k (Ws.getD p ⟨#[]⟩))) ∧ Below w.heap.size w w' := by
  obtain ⟨a1, c1, e1⟩ := h.len
  obtain ⟨a2, c2, e2⟩ := hx.len
  subst e1 e2
  have HSG : Hid (SgR w (.slice a1 L.length c1) L ∧ L.length ≤ 9223372036854775000) := ⟨h, hL⟩
  have HSX : Hid (StR w (.slice a2 Ws.length c2) Ws) := hx
  have HK : Hid (w.cell? ⟨KB, 0, none⟩ = some (.int .i64 k) ∧ KB < w.heap.size) := ⟨hk, hkl⟩
  have HVO : Hid (Calls Try.prog 34 #[.slice (some ⟨w.heap.size, 0, none⟩) 1 1] (w.alloc (.cells #[.slice a1 L.length c1] 22)) fun e w' => e = .returned (.string ⟨(vbs [L] 4).toArray⟩) ∧ Below (w.alloc (.cells #[.slice a1 L.length c1] 22)).heap.size (w.alloc (.cells #[.slice a1 L.length c1] 22)) w') := by
    have hbn := below_new w (.cells #[.slice a1 L.length c1] 22)
    refine variablesOf_any w.heap.size [.slice a1 L.length c1] [L] 1 _ ⟨heap_last _ _, rfl, fun j hj => ?_⟩ (by show 1 ≤ 40000; decide)
    have hj0 : j = 0 := by have : j < 1 := hj; omega
    subst hj0
    exact ⟨h.below hbn, hL⟩
  have hbl := vbs_le [L] 4
  have HMEM : Hid (∀ j, j < (vbs [L] 4).length → ∃ c, (vbs [L] 4).getD j 0 = c ∧ 0 ≤ plI c.toNat ∧ plI c.toNat < 4) := fun j hj => by
    have hm : (vbs [L] 4).getD j 0 ∈ vbs [L] 4 := by
      rw [List.getD_eq_getElem?_getD, List.getElem?_eq_getElem hj]
      exact List.getElem_mem hj
    exact ⟨_, rfl, xyz_pl _ (vbs_mem hm)⟩
  obtain ⟨bs, hbs⟩ : ∃ bs, vbs [L] 4 = bs := ⟨_, rfl⟩
  rw [hbs] at HVO HMEM hbl ⊢
  obtain ⟨mv, hmv⟩ : ∃ mv : Nat → Int, (fun p => chk k (Ws.getD p ⟨#[]⟩)) = mv := ⟨_, rfl⟩
  have HMV : Hid (∀ p, mv p = chk k (Ws.getD p ⟨#[]⟩)) := fun p => by rw [← hmv]
  rw [hmv]
  clear h hx hk hkl hbs hmv
  go_enter Try.func43, Try.ntmps43
  go_wp2_with fail
  refine Calls.mono HVO.out ?_
  rintro e w1 ⟨rfl, hb1⟩
  have HB1 : Hid (Below w.heap.size w w1) := go_on (below_new _ _) hb1
  have hsz : (⟨bs.toArray⟩ : ByteArray).size = bs.length := by simp [ByteArray.size]
  have hcv := run_bytes_of_string (P := Try.prog) w1 9 106 5 ⟨bs.toArray⟩ Try.underlying9 Try.underlying106 Try.underlying5
  clear hb1
  go_wp2_with fail
  generalize hcp : grownCap w1 bs.length 0 5 = cp
  generalize hzz : World.drew _ = z
  have HZB : Hid (Below w.heap.size w z) := by show Below _ _ _; rw [← hzz]; exact (go_on HB1.out (below_newF _ _)).drew
  have HBY : Hid (∀ y, Below z.heap.size z y → ∀ j, j < bs.length → y.cell? ⟨w1.heap.size, j, none⟩ = some (.int .u8 ((bs.getD j 0).toNat : Nat))) := fun y hy j hj => by
    have h1 : z.heap[w1.heap.size]? = some (.cells (bytesRow ⟨bs.toArray⟩ cp) 5 ((bytesRow ⟨bs.toArray⟩ cp).size, (bytesRow ⟨bs.toArray⟩ cp).size + 1)) := by rw [← hzz]; exact heap_last _ _
    rw [below_cell hy (Array.getElem?_eq_some_iff.1 h1).1, cell_of_row _ _ _ _ _ _ h1, bytesRow_at _ _ _ (by simpa using hj)]
    simp [List.getD_eq_getElem?_getD, hj]
  have HPL : Hid (∀ j, j < bs.length → ∀ y, Calls Try.prog 80 #[.int .u8 ((bs.getD j 0).toNat : Nat)] y fun e w' => e = .returned (.int .i64 (plN (bs.getD j 0) : Nat)) ∧ y = w') := fun j hj y => by
    have h1 := place_any (bs.getD j 0).toNat (UInt8.toNat_lt _) y
    obtain ⟨c, hc, h2, h3⟩ := HMEM.out j hj
    have h4 : plI (bs.getD j 0).toNat = ((plN (bs.getD j 0) : Nat) : Int) := by rw [hc]; unfold plN; omega
    rw [h4] at h1
    exact h1
  have HP4 : Hid (∀ j, j < bs.length → plN (bs.getD j 0) < 4) := fun j hj => by
    obtain ⟨c, hc, h2, h3⟩ := HMEM.out j hj
    rw [hc]
    unfold plN
    omega
  have HBS : Hid (bs.length ≤ 4) := hbl
  obtain ⟨n, hn⟩ : ∃ n, Ws.length = n := ⟨_, rfl⟩
  have HWN : Hid (Ws.length = n) := hn
  rw [hn] at hW ⊢
  clear hcv hsz hcp hzz hn
  go_loopw [19] (fun vi wr => ∃ i : Nat, vi = .int .i64 (i : Nat) ∧ i ≤ bs.length ∧ (∀ j, j < i → plN (bs.getD j 0) < n) ∧ Below z.heap.size z wr) (fun vi _ => bs.length - (Go.RowKit.intOf vi).toNat)
  case atStart => exact ⟨0, rfl, Nat.zero_le _, fun j hj => by omega, Below.refl _ _⟩
  case round =>
    obtain ⟨i, rfl, hi, hj, hb⟩ := hrel
    have HB : Hid (Below z.heap.size z wr) := hb
    have HJ : Hid (∀ j, j < i → plN (bs.getD j 0) < n) := hj
    clear hb hj
    by_cases hlt : i < bs.length
    · have hiI : (i : Int) < bs.length := by omega
      have hc := HBY.out wr HB.out i hlt
      have HP : Hid (∀ y, Calls Try.prog 80 #[.int .u8 ((bs.getD i 0).toNat : Nat)] y fun e w' => e = .returned (.int .i64 (plN (bs.getD i 0) : Nat)) ∧ y = w') := HPL.out i hlt
      have hq4 := HP4.out i hlt
      obtain ⟨q, hq⟩ : ∃ q, plN (bs.getD i 0) = q := ⟨_, rfl⟩
      obtain ⟨c, hcc⟩ : ∃ c, (bs.getD i 0).toNat = c := ⟨_, rfl⟩
      have HQ : Hid (plN (bs.getD i 0) = q ∧ i < bs.length) := ⟨hq, hlt⟩
      rw [hq] at HP hq4
      rw [hcc] at HP hc
      have hw3 : IntKind.i64.wrap ((i : Int) + 1) = ((i + 1 : Nat) : Int) := by rw [IntKind.wrap_i64]; omega
      clear hq hcc hlt
      by_cases hbig : n ≤ q
      · have hbI : (n : Int) ≤ q := by omega
        have hbd : decide ((n : Int) ≤ q) = true := decide_eq_true hbI
        have HE : Hid (cvE bs n mv = 3) := cv_three HQ.out.2 (by rw [HQ.out.1]; exact hbig)
        go_wp2_with (go_at_call 80; refine (HP.out _).mono ?_; rintro e w5 ⟨rfl, rfl⟩)
        go_ret
        exact ⟨by rw [HWN.out, HE.out]; rfl, go_on HZB.out HB.out⟩
      · have hbI : ¬ (n : Int) ≤ q := by omega
        have hbd : decide ((n : Int) ≤ q) = false := decide_eq_false hbI
        have HNB : Hid (q < n) := by show _ < _; omega
        go_wp2_with (go_at_call 80; refine (HP.out _).mono ?_; rintro e w5 ⟨rfl, rfl⟩)
        go_roundw
        case rel => exact ⟨i + 1, rfl, HQ.out.2, fun j hj => by
          by_cases e : j = i
          · subst e; rw [HQ.out.1]; exact HNB.out
          · exact HJ.out j (by omega), HB.out⟩
        case measure => have := HQ.out.2; simp [Go.RowKit.intOf]; omega
    · have hiI : ¬ (i : Int) < bs.length := by omega
      have HIN : Hid (∀ j, j < bs.length → plN (bs.getD j 0) < n) := fun j hj => HJ.out j (by omega)
      go_wp2_with fail
      go_loopw [31] (fun vi wr => ∃ i : Nat, vi = .int .i64 (i : Nat) ∧ i ≤ bs.length ∧ (∀ j, j < i → mv (plN (bs.getD j 0)) = 0) ∧ Below z.heap.size z wr) (fun vi _ => bs.length - (Go.RowKit.intOf vi).toNat)
      case atStart => exact ⟨0, rfl, Nat.zero_le _, fun j hj => by omega, HB.out⟩
      case round =>
        clear HB HJ
        obtain ⟨i, rfl, hi, hj, hb⟩ := hrel
        have HB : Hid (Below z.heap.size z wr) := hb
        have HJ : Hid (∀ j, j < i → mv (plN (bs.getD j 0)) = 0) := hj
        have HII : Hid (i ≤ bs.length) := hi
        clear hb hj
        by_cases hlt : i < bs.length
        · have hiI : (i : Int) < bs.length := by omega
          have hc := HBY.out wr HB.out i hlt
          have HP : Hid (∀ y, Calls Try.prog 80 #[.int .u8 ((bs.getD i 0).toNat : Nat)] y fun e w' => e = .returned (.int .i64 (plN (bs.getD i 0) : Nat)) ∧ y = w') := HPL.out i hlt
          have hqn := HIN.out i hlt
          obtain ⟨q, hq⟩ : ∃ q, plN (bs.getD i 0) = q := ⟨_, rfl⟩
          obtain ⟨c, hcc⟩ : ∃ c, (bs.getD i 0).toNat = c := ⟨_, rfl⟩
          have HQ : Hid (plN (bs.getD i 0) = q ∧ i < bs.length) := ⟨hq, hlt⟩
          rw [hq] at HP hqn
          rw [hcc] at HP hc
          have hw3 : IntKind.i64.wrap ((i : Int) + 1) = ((i + 1 : Nat) : Int) := by rw [IntKind.wrap_i64]; omega
          have hqI : (q : Int) < n := by omega
          obtain ⟨a', cap', e', hr⟩ := HSX.out.below (go_on HZB.out HB.out)
          simp only [Value.slice.injEq] at e'
          obtain ⟨rfl, _, rfl⟩ := e'
          obtain ⟨g, o, rfl, hg, x1⟩ := hr q (by rw [HWN.out]; exact hqn)
          have HMC : Hid (Calls Try.prog 42 #[.string (Ws.getD q ⟨#[]⟩), .pointer (some ⟨KB, 0, none⟩)] wr fun e w' => e = .returned (.int .i64 (mv q)) ∧ Below wr.heap.size wr w') := by
            have h1 := isWord_any k (Ws.getD q ⟨#[]⟩) KB wr (by rw [below_cell (go_on HZB.out HB.out) HK.out.2]; exact HK.out.1)
            rw [← HMV.out q] at h1
            exact h1
          obtain ⟨wq, hwq⟩ : ∃ wq, Ws.getD q ⟨#[]⟩ = wq := ⟨_, rfl⟩
          rw [hwq] at x1 HMC
          obtain ⟨m, hm⟩ : ∃ m, mv q = m := ⟨_, rfl⟩
          have HM : Hid (mv q = m) := hm
          rw [hm] at HMC
          clear hq hcc hlt hr hwq hm
          by_cases hz : m = 0
          · subst hz
            go_wp2_with (first | (go_at_call 80; refine (HP.out _).mono ?_; rintro e w5 ⟨rfl, rfl⟩) | (go_at_call 42; refine Calls.mono HMC.out ?_; rintro e w6 ⟨rfl, hb6⟩; have HB6 : Hid (Below z.heap.size z w6) := (go_on HB.out hb6); clear hb6 hc x1))
            go_roundw
            case rel => exact ⟨i + 1, rfl, HQ.out.2, fun j hj => by
              by_cases e : j = i
              · subst e; rw [HQ.out.1]; exact HM.out
              · exact HJ.out j (by omega), HB6.out⟩
            case measure => have := HQ.out.2; simp [Go.RowKit.intOf]; omega
          · have hzb : (m != 0) = true := by rw [bne_iff_ne]; exact hz
            have hzd : decide (m ≠ 0) = true := decide_eq_true hz
            have HE : Hid (cvE bs n mv = m) := by
              show _ = _
              rw [cv_first HIN.out HQ.out.2 (by rw [HQ.out.1, HM.out]; exact hz) HJ.out, HQ.out.1]
              exact HM.out
            go_wp2_with (first | (go_at_call 80; refine (HP.out _).mono ?_; rintro e w5 ⟨rfl, rfl⟩) | (go_at_call 42; refine Calls.mono HMC.out ?_; rintro e w6 ⟨rfl, hb6⟩; have HB6 : Hid (Below z.heap.size z w6) := (go_on HB.out hb6); clear hb6 hc x1))
            go_ret
            exact ⟨by rw [HWN.out, HE.out]; rfl, go_on HZB.out HB6.out⟩
        · have hiI : ¬ (i : Int) < bs.length := by omega
          have HE : Hid (cvE bs n mv = 0) := cv_none HIN.out (fun j hj => HJ.out j (by have := HII.out; omega))
          go_wp2_with fail
          go_ret
          exact ⟨by rw [HWN.out, HE.out]; rfl, go_on HZB.out HB.out⟩
end Go.Proofs.Ythhlamehbcidgaa
