/- Contracts of the document's begin, Cut and Parts; tree.Parts' answer as memory of the caller's own. -/
import Derived.Test.YtchaggigabccaaaDoorOa
import Derived.Test.YtchaggigabccaaaDoorTr
import Derived.Deep.RegionWith
namespace Go.Proofs.YtchaggigabccaaaDoor
open Go Go.RowKit

theorem free_prefix {q : List Nd} {m c : Nat} (hm : m < q.length) (h : freeN (q.take (m + 1)) = some c) : 1 ≤ c := by
  rw [free_take hm] at h
  cases hx : freeN (q.take m) with
  | none => rw [hx] at h; simp at h
  | some d =>
    rw [hx, Option.bind_some] at h
    split at h
    · simp only [Option.some.injEq] at h; omega
    · cases h
theorem free_prev {q : List Nd} {m c : Nat} (hm : m < q.length) (h : freeN (q.take (m + 1)) = some c) : ∃ d, freeN (q.take m) = some d ∧ arity (q.getD m (0, 0)).1 ≤ d ∧ c = d - arity (q.getD m (0, 0)).1 + 1 := by
  rw [free_take hm] at h
  cases hx : freeN (q.take m) with
  | none => rw [hx] at h; simp at h
  | some d =>
    rw [hx, Option.bind_some] at h
    split at h
    · next hg => simp only [Option.some.injEq] at h; exact ⟨d, rfl, hg.2, h.symm⟩
    · cases h

set_option maxHeartbeats 2000000 in
set_option maxRecDepth 100000 in
theorem begin_any (v : Value) (p q r : List Nd) (w : World) (hv : NReads w v (p ++ q ++ r)) (hm : p.length + q.length ≤ 4000) (hf : freeN q = some 1) (i0 : Nat) (hi0 : i0 + 1 = p.length + q.length) :
    Calls Tryd.prog 52 #[v, .int .i64 (i0 : Int)] w fun e w' => e = .returned (.int .i64 (p.length : Int)) ∧ Below w.heap.size w w' := by
  have hq := free_pos hf
  obtain ⟨a, cap, rfl, hr⟩ := hv
  have HR : Hid _ := hr
  have HF : Hid (freeN q = some 1) := hf
  clear hr hf
  go_enter Tryd.func52, Tryd.ntmps52
  go_wp2_with fail
  go_loopw [1, 5] (fun vi vw wr => ∃ m c i : Nat, 1 ≤ m ∧ m ≤ q.length ∧ i + 1 = p.length + m ∧ vi = .int .i64 i ∧ vw = .int .i64 c ∧ 1 ≤ c ∧ c ≤ 4000 ∧ freeN (q.take m) = some c ∧ Below w.heap.size w wr) (fun vi _ _ => (intOf vi).toNat)
  case atStart => exact ⟨q.length, 1, i0, hq, Nat.le_refl _, by omega, rfl, rfl, by omega, by omega, by rw [List.take_length]; exact HF.out, Below.refl _ _⟩
  case round =>
    obtain ⟨m, c, i, h1, h2, hi, rfl, rfl, hc1, hc4, hfc, hb⟩ := hrel
    have HB : Hid (Below w.heap.size w wr) := hb
    obtain ⟨m, rfl⟩ : ∃ m', m = m' + 1 := ⟨m - 1, by omega⟩
    obtain ⟨d, hd, had, hcd⟩ := free_prev (by omega) hfc
    have HD : Hid (freeN (q.take m) = some d) := hd
    obtain ⟨g, o, rfl, hg, hc, _⟩ := HR.out i (by simp; omega)
    have hget : (p ++ q ++ r).getD i (0, 0) = q.getD m (0, 0) := by
      rw [List.getD_eq_getElem?_getD, List.getD_eq_getElem?_getD, List.getElem?_append_left (by simp; omega), List.getElem?_append_right (by omega), show i - p.length = m by omega]
    rw [hget] at hc
    obtain ⟨⟨k, s⟩, hks⟩ : ∃ n, q.getD m (0, 0) = n := ⟨_, rfl⟩
    rw [hks] at hc had hcd
    have hal := arity_le k
    obtain ⟨ar, har⟩ : ∃ ar, arity k = ar := ⟨_, rfl⟩
    simp only at had hcd
    rw [har] at had hcd hal
    have HAR : Hid (arity k = ar) := har
    have cc : wr.cell? ⟨g, o + i * 2, none⟩ = some (.int .i64 k) := by rw [below_cell hb hg]; exact hc
    have hil : (i : Int) < ((p ++ q ++ r).length : Nat) := by simp; omega
    have hlen : p.length + (q.length + r.length) = (p ++ q ++ r).length := by simp
    have hdle : d ≤ 4000 := by
      have := free_le q m (by omega) d hd
      omega
    generalize (p ++ q ++ r).length = len at *
    clear hget hks har hc hb hd hfc
    go_wp2_with fail
    refine (rarity_any k _).mono ?_
    rintro e w2 ⟨rfl, rfl⟩
    rw [HAR.out]
    have hsum : (↑(d - ar) : Int) + (ar : Int) = (d : Int) := by omega
    by_cases hm0 : m = 0
    · subst hm0
      have hd0 : d = 0 := by
        have := HD.out
        simp only [List.take_zero, freeN, frees, Option.some.injEq] at this
        omega
      subst hd0
      obtain rfl : ar = 0 := by omega
      obtain rfl : i = p.length := by omega
      clear hcd hil
      go_wp2_with fail
      go_ret
      exact ⟨rfl, HB.out⟩
    · have hd1 : 1 ≤ d := by
        have hD := HD.out
        rw [show m = (m - 1) + 1 by omega] at hD
        exact free_prefix (by omega) hD
      have hdb : ((d : Int) == 0) = false := by rw [beq_eq_false_iff_ne]; omega
      have hc' : (c : Int) - 1 + ar = d := by omega
      clear hcd hil
      go_wp2_with fail
      go_roundw
      case rel => exact ⟨m, d, i - 1, by omega, by omega, by omega, by go_num, by go_num, hd1, hdle, HD.out, HB.out⟩
      case measure => simp [intOf]; omega
/-- Lists read, each no longer than its room. -/
def PRC (w : World) (v : Value) (ps : List (List Nd)) : Prop :=
  ∃ a cap, v = .slice a ps.length cap ∧ ∀ i, i < ps.length → ∃ g o u, a = some ⟨g, o, none⟩ ∧ g < w.heap.size ∧ w.cell? ⟨g, o + i, none⟩ = some u ∧ NReads w u (ps.getD i []) ∧ ∀ a n c, u = .slice a n c → n ≤ c
theorem PRC.reads {w : World} {v : Value} {ps : List (List Nd)} (h : PRC w v ps) : PReads w v ps := by
  obtain ⟨a, c, e, hr⟩ := h
  exact ⟨a, c, e, fun i hi => by obtain ⟨g, o, u, h1, h2, h3, h4, _⟩ := hr i hi; exact ⟨g, o, u, h1, h2, h3, h4⟩⟩
theorem PRC.stay {w w' : World} {v : Value} {ps : List (List Nd)} (h : PRC w v ps) (hb : Below w.heap.size w w') : PRC w' v ps := by
  obtain ⟨a, c, e, hr⟩ := h
  refine ⟨a, c, e, fun i hi => ?_⟩
  obtain ⟨g, o, u, e, hg, h1, h2, h3⟩ := hr i hi
  exact ⟨g, o, u, e, Nat.lt_of_lt_of_le hg hb.size, by rw [below_cell hb hg]; exact h1, h2.stay hb, h3⟩
theorem pb_reads1 {w : World} {G : Nat} {v1 : Value} {p : List Nd} (h : PB w G #[v1]) (h1 : NReads w v1 p) (k1 : ∀ a n c, v1 = .slice a n c → n ≤ c) (c : Nat) : PRC w (.slice (some ⟨G, 0, none⟩) 1 c) [p] := by
  refine ⟨some ⟨G, 0, none⟩, c, rfl, fun i hi => ?_⟩
  have hi : i < 1 := hi
  obtain rfl : i = 0 := by omega
  exact ⟨G, 0, v1, rfl, h.lt, by rw [h.get]; rfl, h1, k1⟩
theorem pb_reads2 {w : World} {G : Nat} {v1 v2 : Value} {p q : List Nd} (h : PB w G #[v1, v2]) (h1 : NReads w v1 p) (h2 : NReads w v2 q) (k1 : ∀ a n c, v1 = .slice a n c → n ≤ c) (k2 : ∀ a n c, v2 = .slice a n c → n ≤ c) (c : Nat) : PRC w (.slice (some ⟨G, 0, none⟩) 2 c) [p, q] := by
  refine ⟨some ⟨G, 0, none⟩, c, rfl, fun i hi => ?_⟩
  have hi : i < 2 := hi
  have hc : i = 0 ∨ i = 1 := by omega
  rcases hc with rfl | rfl
  · exact ⟨G, 0, v1, rfl, h.lt, by rw [h.get]; rfl, h1, k1⟩
  · exact ⟨G, 0, v2, rfl, h.lt, by rw [h.get]; rfl, h2, k2⟩
/-- A list is read from one block alone. -/
theorem NReads.of_block {w w' : World} {g o n c : Nat} {ts : List Nd} (h : NReads w (.slice (some ⟨g, o, none⟩) n c) ts) (hk : w'.heap[g]? = w.heap[g]?) : NReads w' (.slice (some ⟨g, o, none⟩) n c) ts := by
  obtain ⟨a, c', e, hr⟩ := h
  refine ⟨a, c', e, fun i hi => ?_⟩
  obtain ⟨g', o', e2, hg, h1, h2⟩ := hr i hi
  simp only [Value.slice.injEq] at e
  rw [e2, Option.some.injEq, Addr.mk.injEq] at e
  obtain ⟨⟨rfl, rfl, _⟩, _, _⟩ := e
  refine ⟨g, o, e2, ?_, by rw [World.cell?_of_block (a := ⟨g, o + i * 2, none⟩) hk]; exact h1, by rw [World.cell?_of_block (a := ⟨g, o + i * 2 + 1, none⟩) hk]; exact h2⟩
  have : w'.heap[g]?.isSome = true := by rw [hk, Array.getElem?_eq_getElem hg]; rfl
  simpa using this
theorem PB.of_block {w w' : World} {G : Nat} {arr : Array Value} (h : PB w G arr) (hk : w'.heap[G]? = w.heap[G]?) : PB w' G arr := hk.trans h
theorem cut_zero {ts : List Nd} {k s : Int} (hn : ts.getD (ts.length - 1) (0, 0) = (k, s)) (hr : arity k = 0) : cutL ts = [] := by
  unfold cutL; rw [hn]; simp only [hr]
theorem cut_one {ts : List Nd} {k s : Int} (hn : ts.getD (ts.length - 1) (0, 0) = (k, s)) (hr : arity k = 1) : cutL ts = [ts.take (ts.length - 1)] := by
  unfold cutL; rw [hn]; simp only [hr]
theorem cut_two {ts : List Nd} {k s : Int} (hn : ts.getD (ts.length - 1) (0, 0) = (k, s)) (hr : arity k = 2) {a b : Nat} (hstk : stkN (ts.take (ts.length - 1)) = [a, b]) : cutL ts = [ts.take b, (ts.take (ts.length - 1)).drop b] := by
  unfold cutL; rw [hn]; simp only [hr, hstk]

set_option maxHeartbeats 4000000 in
set_option maxRecDepth 100000 in
theorem cut_any (v : Value) (ts : List Nd) (w : World) (hv : NReads w v ts) (h4 : ts.length ≤ 4000) (hf : freeN ts = some 1) (hcap : ∀ a n c, v = .slice a n c → n ≤ c) :
    Calls Tryd.prog 42 #[v] w fun e w' => ∃ u, e = .returned u ∧ (∀ w'', (∀ k, k < w'.heap.size → v.ownBlock = some k ∨ w.heap.size ≤ k → w''.heap[k]? = w'.heap[k]?) → PRC w'' u (cutL ts)) ∧ Below w.heap.size w w' := by
  obtain ⟨h0, hg, hsl⟩ := tree_end hf
  obtain ⟨⟨k, s⟩, hn⟩ : ∃ n, ts.getD (ts.length - 1) (0, 0) = n := ⟨_, rfl⟩
  rw [hn] at hsl
  simp only at hsl
  have HV : Hid (NReads w v ts) := hv
  obtain ⟨av, cv, rfl, hrd⟩ := hv
  have hcv := hcap _ _ _ rfl
  clear hcap
  obtain ⟨g, o, rfl, hgl, hc1, hc2⟩ := hrd (ts.length - 1) (by omega)
  rw [hn] at hc1 hc2
  obtain ⟨n, hnd⟩ : ∃ n, ts.length - 1 = n := ⟨_, rfl⟩
  have hnI : (ts.length : Int) - 1 = n := by omega
  have hnl : (n : Int) < ts.length := by omega
  have hnc : (n : Int) ≤ cv := by omega
  have hal := arity_le k
  have HN : Hid (ts.getD (ts.length - 1) (0, 0) = (k, s)) := hn
  have HF : Hid (freeN ts = some 1) := hf
  rw [hnd] at hc1 hc2
  clear hrd hn hf hg
  have hc : arity k = 0 ∨ arity k = 1 ∨ arity k = 2 := by omega
  rcases hc with hr | hr | hr
  · have HAR : Hid (arity k = 0) := hr
    clear hr hsl
    go_enter Tryd.func42, Tryd.ntmps42
    go_wp2_with fail
    refine (rarity_any k _).mono ?_
    rintro e w2 ⟨rfl, rfl⟩
    rw [HAR.out]
    go_wp2_with fail
    go_ret
    exact ⟨_, rfl, fun w'' _ => by rw [cut_zero HN.out HAR.out]; exact ⟨_, _, rfl, fun i hi => absurd hi (by simp)⟩, Below.refl _ _⟩
  · have HAR : Hid (arity k = 1) := hr
    have HT : Hid (∀ w', Below w.heap.size w w' → NReads w' (.slice (some ⟨g, o, none⟩) n cv) (ts.take n)) := fun w' hb => by
      have hn1 : 0 < n := by
        have hx := (tree_last HF.out HN.out).1
        rw [HAR.out, hnd] at hx
        have := free_pos hx
        simp at this
        omega
      obtain ⟨g', o', e, h⟩ := nreads_part (HV.out.stay hb) (lo := 0) (hi := n) hn1 (by omega)
      cases e
      have := h cv
      simpa using this
    clear hr hsl
    go_enter Tryd.func42, Tryd.ntmps42
    go_wp2_with fail
    refine (rarity_any k _).mono ?_
    rintro e w2 ⟨rfl, rfl⟩
    rw [HAR.out]
    go_wp2_with fail
    go_ret
    have hb2 : Below w2.heap.size w2 (w2.alloc (.cells #[.slice (some ⟨g, o, none⟩) n cv] 22)) := (Below.refl _ _).alloc (Nat.le_refl _) _
    refine ⟨_, rfl, fun w'' hk => ?_, hb2⟩
    rw [cut_one HN.out HAR.out, hnd]
    exact pb_reads1 ((PB.new w2 #[.slice (some ⟨g, o, none⟩) n cv]).of_block (hk _ (by simp) (.inr (Nat.le_refl _)))) ((HT.out _ hb2).of_block (hk g (Nat.lt_of_lt_of_le hgl hb2.size) (.inl rfl))) (fun a n c h => by cases h; omega) 1
  · have HAR : Hid (arity k = 2) := hr
    rw [hr, hnd] at hsl
    obtain ⟨a, b, hstk⟩ : ∃ a b, stkN (ts.take n) = [a, b] := by
      match hh : stkN (ts.take n), hsl with
      | [a, b], _ => exact ⟨a, b, rfl⟩
    obtain ⟨p, q, he, hfp, hfq, e1, e2⟩ := tree_two HF.out HN.out (by rw [hnd]; exact hstk)
    have HC : Hid (cutL ts = [p, q]) := by show _ = _; rw [cut_two HN.out HAR.out (by rw [hnd]; exact hstk), e1, e2]
    have hbp : p.length = b := by
      have := congrArg List.length e1
      have h2 := congrArg List.length e2
      simp only [List.length_take, List.length_drop] at this h2
      have := free_pos hfq
      omega
    have hpq : p.length + q.length = n := by
      have := congrArg List.length he
      simp only [List.length_append, List.length_singleton] at this
      omega
    have hp1 := free_pos hfp
    have hq1 := free_pos hfq
    rw [hnd] at e2
    have HT : Hid (∀ w', Below w.heap.size w w' → NReads w' (.slice (some ⟨g, o, none⟩) b cv) p ∧ NReads w' (.slice (some ⟨g, o + b * 2, none⟩) (n - b) (cv - b)) q) := fun w' hb => by
      obtain ⟨g', o', e, h⟩ := nreads_part (HV.out.stay hb) (lo := 0) (hi := b) (by omega) (by omega)
      cases e
      have hx := h cv
      rw [List.drop_zero, e1] at hx
      obtain ⟨g', o', e, h⟩ := nreads_part (HV.out.stay hb) (lo := b) (hi := n) (by omega) (by omega)
      cases e
      have hy := h (cv - b)
      rw [e2] at hy
      exact ⟨by simpa using hx, hy⟩
    have HVp : Hid (NReads w (.slice (some ⟨g, o, none⟩) ts.length cv) (p ++ q ++ [(k, s)])) := by
      have := HV.out
      show NReads _ _ _
      rw [← he]; exact this
    obtain ⟨m, hm⟩ : ∃ m, n - 1 = m := ⟨_, rfl⟩
    have hmI : (n : Int) - 1 = m := by omega
    have hbn : (b : Int) ≤ n := by omega
    have hbc : (b : Int) ≤ cv := by omega
    have HBP : Hid (p.length = b ∧ m + 1 = p.length + q.length ∧ p.length + q.length ≤ 4000 ∧ freeN q = some 1) := ⟨hbp, by omega, by omega, hfq⟩
    have hbcv : ¬ b = cv := by omega
    clear hr hsl hstk he e1 e2 hfp hfq hpq
    go_enter Tryd.func42, Tryd.ntmps42
    go_wp2_with fail
    refine (rarity_any k _).mono ?_
    rintro e w2 ⟨rfl, rfl⟩
    rw [HAR.out]
    go_wp2_with fail
    refine (begin_any _ p q [(k, s)] _ HVp.out HBP.out.2.2.1 HBP.out.2.2.2 m HBP.out.2.1).mono ?_
    rintro e w3 ⟨rfl, hb3⟩
    rw [HBP.out.1]
    have HB3 : Hid (Below w2.heap.size w2 w3) := hb3
    clear hb3 hbp
    go_wp2_with fail
    go_region
    all_goals go_wp2_with fail
    all_goals go_ret
    have hb4 : Below w2.heap.size w2 (w3.alloc (.cells #[.slice (some ⟨g, o, none⟩) b cv, .slice (some ⟨g, o + b * 2, none⟩) (n - b) (cv - b)] 22)).drew := (HB3.out.alloc HB3.out.size _).drew
    refine ⟨_, rfl, fun w'' hk => ?_, hb4⟩
    rw [HC.out]
    exact pb_reads2 ((show PB (w3.alloc (.cells #[.slice (some ⟨g, o, none⟩) b cv, .slice (some ⟨g, o + b * 2, none⟩) (n - b) (cv - b)] 22)).drew w3.heap.size _ from PB.new w3 _).of_block (hk _ (by show w3.heap.size < (w3.alloc _).heap.size; simp) (.inr HB3.out.size))) ((HT.out _ hb4).1.of_block (hk g (Nat.lt_of_lt_of_le hgl hb4.size) (.inl rfl))) ((HT.out _ hb4).2.of_block (hk g (Nat.lt_of_lt_of_le hgl hb4.size) (.inl rfl))) (fun a n c h => by cases h; omega) (fun a n c h => by cases h; omega) 2

set_option maxHeartbeats 4000000 in
set_option maxRecDepth 100000 in
theorem rparts_bad (v : Value) (ts : List Nd) (w : World) (hv : NReads w v ts) (hm : ts.length ≤ 9223372036854775806) (hbad : wrong ts ≠ 0) :
    Calls Tryd.prog 20 #[v] w fun e w' => e = .returned (.tuple #[ndV (0, 0), .slice none 0 0, .int .i64 (wrong ts)]) ∧ Below w.heap.size w w' := by
  have HV : Hid (NReads w v ts) := hv
  obtain ⟨x, hx⟩ : ∃ x, wrong ts = x := ⟨_, rfl⟩
  rw [hx] at hbad
  have hxb : (x != 0) = true := by simpa using hbad
  have HX : Hid (wrong ts = x) := hx
  have hb0 : Below w.heap.size w (w.alloc (.cells #[.int .i64 0, .int .u8 0] 36)) := (Below.refl _ _).alloc (Nat.le_refl _) _
  have HB0 : Hid _ := hb0
  have r0 := NB.new w 0 0
  rw [hx]
  obtain ⟨av, cv, rfl, _⟩ := hv
  clear hx hbad hb0
  go_enter Tryd.func20, Tryd.ntmps20
  go_wp2_with fail
  refine (rwrong_any _ ts _ (HV.out.stay HB0.out) hm).mono ?_
  rintro e w1 ⟨rfl, hb1⟩
  rw [HX.out]
  have HN : Hid (NB w1 w.heap.size 0 0) := r0.keep hb1
  have HB1 : Hid (Below w.heap.size w w1) := go_on HB0.out hb1
  have d0 := HN.out.fst
  have d1 := HN.out.snd
  have f0 := HN.out.frozen 0
  have f1 := HN.out.frozen 1
  clear r0 hb1
  go_wp2_with fail
  have hN2 := HN.out.set 0 0
  refine bodyPost_ret (results_node rfl rfl hN2.fst hN2.snd) rfl ?_
  exact ⟨rfl, below_set2 HB1.out (Nat.le_refl _) _ _⟩

set_option maxHeartbeats 4000000 in
set_option maxRecDepth 100000 in
theorem rparts_good (v : Value) (ts : List Nd) (w : World) (hv : NReads w v ts) (hok : wrong ts = 0) (hcap : ∀ a n c, v = .slice a n c → n ≤ c) :
    Calls Tryd.prog 20 #[v] w fun e w' => ∃ u, e = .returned (.tuple #[ndV (ts.getD (ts.length - 1) (0, 0)), u, .int .i64 0]) ∧ (∀ w'', (∀ k, k < w'.heap.size → v.ownBlock = some k ∨ w.heap.size ≤ k → w''.heap[k]? = w'.heap[k]?) → PReads w'' u (cutL ts)) ∧ Below w.heap.size w w' := by
  have HV : Hid (NReads w v ts) := hv
  have HCAP : Hid (∀ a n c, v = .slice a n c → n ≤ c) := hcap
  obtain ⟨hm, hf⟩ := wrong_len hok
  have HF : Hid (freeN ts = some 1) := hf
  have HX : Hid (wrong ts = 0) := hok
  have h0 := free_pos hf
  have hb0 : Below w.heap.size w (w.alloc (.cells #[.int .i64 0, .int .u8 0] 36)) := (Below.refl _ _).alloc (Nat.le_refl _) _
  have HB0 : Hid (Below w.heap.size w (w.alloc (.cells #[.int .i64 0, .int .u8 0] 36))) := hb0
  have r0 := NB.new w 0 0
  obtain ⟨⟨k, s⟩, hn⟩ : ∃ n, ts.getD (ts.length - 1) (0, 0) = n := ⟨_, rfl⟩
  rw [hn]
  obtain ⟨av, cv, rfl, hrd⟩ := hv
  obtain ⟨g, o, rfl, hgl, hc1, hc2⟩ := hrd (ts.length - 1) (by omega)
  rw [hn] at hc1 hc2
  obtain ⟨n, hnd⟩ : ∃ n, ts.length - 1 = n := ⟨_, rfl⟩
  have hnI : (ts.length : Int) - 1 = n := by omega
  have hnl : (n : Int) < ts.length := by omega
  rw [hnd] at hc1 hc2
  have HC : Hid (∀ w', Below w.heap.size w w' → w'.cell? ⟨g, o + n * 2, none⟩ = some (.int .i64 k) ∧ w'.cell? ⟨g, o + n * 2 + 1, none⟩ = some (.int .u8 s)) := fun w' hb => ⟨by rw [below_cell hb hgl]; exact hc1, by rw [below_cell hb hgl]; exact hc2⟩
  clear hrd hn hf hok hcap hb0 hc1 hc2 hnd
  go_enter Tryd.func20, Tryd.ntmps20
  go_wp2_with fail
  refine (rwrong_any _ ts _ (HV.out.stay HB0.out) (by omega)).mono ?_
  rintro e w1 ⟨rfl, hb1⟩
  rw [HX.out]
  have HN : Hid (NB w1 w.heap.size 0 0) := r0.keep hb1
  have HB1 : Hid (Below w.heap.size w w1) := go_on HB0.out hb1
  clear r0 hb1
  have hwr : IntKind.i64.wrap (n : Int) = (n : Int) := by rw [IntKind.wrap_i64]; omega
  have hx1 := (HC.out w1 HB1.out).1
  have hx2 := (HC.out w1 HB1.out).2
  go_wp2_with fail
  go_region_with (go_at_call 42; refine (cut_any _ ts _ (HV.out.stay HB1.out.drew) hm HF.out HCAP.out).mono ?_; rintro e w2 ⟨u, rfl, hpr, hb2⟩; have HPR : Hid (∀ w'', (∀ k, k < w2.heap.size → (Value.slice (some ⟨g, o, none⟩) ts.length cv).ownBlock = some k ∨ w1.drew.heap.size ≤ k → w''.heap[k]? = w2.heap[k]?) → PRC w'' u (cutL ts)) := hpr; have HN2 : Hid (NB w2 w.heap.size 0 0) := (show NB w1.drew w.heap.size 0 0 from HN.out).keep hb2; have HB2 : Hid (Below w.heap.size w w2) := go_on HB1.out.drew hb2; have hy1 := (HC.out w2 HB2.out).1; have hy2 := (HC.out w2 HB2.out).2; have d0 := HN2.out.fst; have d1 := HN2.out.snd; have f0 := HN2.out.frozen 0; have f1 := HN2.out.frozen 1; clear hpr hb2)
  all_goals go_wp2_with fail
  all_goals (
    have hN3 := HN2.out.set k s
    refine bodyPost_ret (results_node rfl rfl hN3.fst hN3.snd) rfl ?_
    refine ⟨u, rfl, fun w'' hw'' => (HPR.out _ (fun k' hl' hk' => ?_)).reads, below_set2 HB2.out (Nat.le_refl _) _ _⟩
    have hne : k' ≠ w.heap.size := by
      have hlt := HN.out.lt
      rcases hk' with h | h
      · have h : g = k' := by simpa [Value.ownBlock] using h
        omega
      · have h : w1.heap.size ≤ k' := h
        omega
    have hle : w.heap.size ≤ w1.heap.size := HB1.out.size
    rw [hw'' k' (by simpa using hl') (hk'.imp id (fun h => Nat.le_trans hle h)), Below.heap_setCell _ _ _ _ hne, Below.heap_setCell _ _ _ _ hne])
end Go.Proofs.YtchaggigabccaaaDoor
