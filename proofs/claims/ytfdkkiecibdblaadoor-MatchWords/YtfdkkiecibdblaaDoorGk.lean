/- The reader's ends, word after word. match.Words: what is found. match.Words. match.Words: its two loops. -/
import Derived.Test.YtfdkkiecibdblaaDoorGb
import Derived.Test.YtfdkkiecibdblaaDoorGc
import Derived.Test.YtfdkkiecibdblaaDoorGh
import Derived.Laws.IdiomStrings
namespace Go.Proofs.YtfdkkiecibdblaaDoor
open Go Go.RowKit
set_option linter.unusedVariables false

/-- A set of its own beside the reader. -/
theorem RD.beside {base : Nat} {w w' : World} {B : Nat} {tv : Value} {s : ByteArray} {rv sv : Value} {st sp : List RwP} (h : RD base w B tv s rv sv st sp) {R : Nat} {A : Array Value} (hR : w.heap[R]? = some (.cells A 31 (0, 0))) (hA : A.size = 8) (hs : 1 ≤ s.size) (hk : ∀ k, k ≠ R → w'.heap[k]? = w.heap[k]?) : RD base w' B tv s rv sv st sp := by
  have hRB : B ≠ R := fun e => by have := h.blk; rw [e, hR] at this; simp at this
  have hl : ∀ {v : Value} {n : Nat} {xs : List Value}, w.ownsRow base 65 1 v n xs → ∀ b, v.ownBlock = some b → b ≠ R := fun {v n xs} ho b hb e => by
    obtain ⟨cur, hc⟩ := own_type ho b hb
    rw [e, hR] at hc
    simp at hc
  refine ⟨(hk B hRB).trans h.blk, h.from_, own_of_heap h.rows (fun b hb => hk b (hl h.rows b hb)), own_of_heap h.spare (fun b hb => hk b (hl h.spare b hb)), h.ne, fun x hx => own_of_heap (h.rowv x hx) (fun b hb => hk b (fun e => ?_)), h.apart, h.len⟩
  have h1 := h.rowv x hx
  have h2 := h.len x hx
  obtain ⟨_, hh⟩ := id h1
  rcases hh with ⟨_, h0⟩ | ⟨g, c, cur, e1, _, e2, e3, _, e4, _⟩
  · omega
  · rw [e1] at hb
    have hgb : g = b := by simpa [Value.ownBlock] using hb
    rw [hgb, e, hR] at e2
    have : A = cur := by simpa using e2
    rw [← this, hA] at e4
    omega

set_option maxHeartbeats 4000000 in
set_option maxRecDepth 100000 in
theorem mendsW_any {base : Nat} {w : World} {B : Nat} {tv : Value} {s0 s : ByteArray} {rv sv : Value} (hB : w.heap[B]? = some (.cells #[tv, .string s0, rv, sv] 61 (0, 0)))
    {sp0 : List RwP} (h : RD base (w.setCell ⟨B, 1, none⟩ (.string s)) B tv s rv sv [] sp0) (hsp0 : sp0.length ≤ 5000000) (hT : TzTab w) (hT0 : 2 < base) (hs : s.size ≤ 511) {t : Tr} (ht : t.ok) (hgd : ∀ n ∈ t.flat, good n = true) (hl : t.flat.length ≤ 4000) (hN : ∀ w', Below base w w' → NReads w' tv t.flat) :
    Calls Tryd.prog 28 #[.pointer (some ⟨B, 0, none⟩), .string s] w fun e w' => ∃ M, e = .returned (setV M) ∧ EndsOk (Lg t) (wl s) 0 M ∧ BK base w w' ∧ (1 ≤ s.size → ∃ rv' sv' sp', RD base w' B tv s rv' sv' [] sp' ∧ sp'.length ≤ sp0.length + t.flat.length + 1) := by
  have HN : Hid (∀ w', Below base w w' → NReads w' tv t.flat) := hN
  obtain ⟨a, cap, rfl, hnr⟩ := hN w (Below.refl _ _)
  have c0 : w.cell? ⟨B, 0, none⟩ = some (.slice a t.flat.length cap) := by simp [World.cell?, hB]
  have c1 : w.cell? ⟨B, 1, none⟩ = some (.string s0) := by simp [World.cell?, hB]
  have f1 : w.frozen? ⟨B, 1, none⟩ = false := by simp [World.frozen?, hB]
  have hBl : B < w.heap.size := (Array.getElem?_eq_some_iff.1 hB).1
  have hbB : base ≤ B := h.from_
  have HRT : Hid (RTy w B) := RTy.rdr hB
  have HR0 : Hid (RD base (w.setCell ⟨B, 1, none⟩ (.string s)) B (.slice a t.flat.length cap) s rv sv [] sp0) := h
  have HT : Hid (TzTab w) := hT
  have HRUN : Hid (runR t.flat [] = some [t]) := by
    show runR t.flat [] = some [t]
    have := run_flat t ht [] []
    rw [List.append_nil] at this
    exact this
  have HGD : Hid (∀ n ∈ t.flat, good n = true) := hgd
  obtain ⟨L, hL⟩ : ∃ L, t.flat.length = L := ⟨_, rfl⟩
  have HL : Hid (t.flat.length = L) := hL
  rw [hL] at c0 HR0 HN hl
  clear h hnr hN hB hT hgd hL
  go_enter Tryd.func28, Tryd.ntmps28
  go_wp2_with fail
  refine (readings_any _).mono ?_
  rintro e w1 ⟨rfl, rfl⟩
  go_wp2_with fail
  go_loopw [18] (fun vi wr => ∃ (i : Nat) (S : List Tr) (rv' sv' : Value) (st sp : List RwP), i ≤ L ∧ vi = .int .i64 (i : Int) ∧ runR (t.flat.take i) [] = some S ∧ Rows (wl s) S st ∧ RD base wr B (.slice a L cap) s rv' sv' st sp ∧ st.length + sp.length ≤ i + sp0.length ∧ wr.heap[w.heap.size + 1]? = some (.map rdEs 9) ∧ (∃ A, wr.heap[w.heap.size]? = some (.cells A 31 (0, 0)) ∧ A.size = 8) ∧ BK base w wr) (fun vi _ => L - (intOf vi).toNat)
  case atStart =>
    have hsz : (w.setCell ⟨B, 1, none⟩ (.string s)).heap.size = w.heap.size := by simp
    obtain ⟨W, hW⟩ : ∃ W, w.setCell ⟨B, 1, none⟩ (.string s) = W := ⟨_, rfl⟩
    have hB0 : BK base w W := by rw [← hW]; exact (BK.refl _ _).setCell (p := ⟨B, 1, none⟩) hbB HRT.out _
    have hR0 := HR0.out
    rw [hW] at hR0 hsz ⊢
    refine ⟨0, [], rv, sv, [], sp0, Nat.zero_le _, rfl, rfl, .nil, hR0.stay (((Below.refl _ _).alloc (Nat.le_refl _) _).alloc (by simp) _), by simp, ?_, ⟨#[.int .u64 0, .int .u64 0, .int .u64 0, .int .u64 0, .int .u64 0, .int .u64 0, .int .u64 0, .int .u64 0], ?_, rfl⟩, (hB0.alloc (by omega) _).alloc (by simp; omega) _⟩
    · have := heap_alloc_last (W.alloc (.cells #[.int .u64 0, .int .u64 0, .int .u64 0, .int .u64 0, .int .u64 0, .int .u64 0, .int .u64 0, .int .u64 0] 31)) (.map rdEs 9)
      rw [← this]
      congr 1
      simp [hsz]
    · rw [Below.heap_alloc _ _ _ (by simp; omega), ← hsz]
      exact heap_alloc_last W _
  case round =>
    obtain ⟨i, S, rv', sv', st, sp, hi, rfl, hrun, hrows, hr, hlen, hmap, ⟨A, hA, hAs⟩, hb⟩ := hrel
    by_cases hlt : i < L
    · have hiI : (i : Int) < L := by omega
      obtain ⟨S', hst, hrun'⟩ := run_take (by rw [HL.out]; exact hlt) hrun HRUN.out
      have hg := HGD.out (t.flat.getD i (0, 0)) (by rw [List.getD_eq_getElem?_getD, List.getElem?_eq_getElem (by rw [HL.out]; exact hlt)]; exact List.getElem_mem _)
      obtain ⟨a', cap', ea, hnr⟩ := HN.out wr hb.b
      obtain ⟨g, o, hag, hgl, n1, n2⟩ := hnr i (by rw [HL.out]; exact hlt)
      cases ea
      subst hag
      obtain ⟨n, hn⟩ : ∃ n, t.flat.getD i (0, 0) = n := ⟨_, rfl⟩
      rw [hn] at n1 n2 hst hg
      obtain ⟨k, sg⟩ := n
      have hk := good_kind hg
      simp only at n1 n2 hk
      have hMl := (Array.getElem?_eq_some_iff.1 hmap).1
      have hlk := look_rd (w := wr.alloc (.cells #[.int .i64 k, .int .u8 sg] 55)) (b := w.heap.size + 1) (by rw [Below.heap_alloc _ _ _ hMl]; exact hmap) k hk.1 hk.2
      have HX : Hid (hb = hb) := rfl
      have HR2 : Hid (RD base (wr.alloc (.cells #[.int .i64 k, .int .u8 sg] 55)) B (.slice (some ⟨g, o, none⟩) t.flat.length cap) s rv' sv' st sp) := hr.stay ((Below.refl _ _).alloc (Nat.le_refl _) _)
      have HB2 : Hid (BK base w (wr.alloc (.cells #[.int .i64 k, .int .u8 sg] 55))) := hb.alloc (by have := hr.from_; have := hr.lt; omega) _
      have HM2 : Hid ((wr.alloc (.cells #[.int .i64 k, .int .u8 sg] 55)).heap[w.heap.size + 1]? = some (.map rdEs 9)) := by show _ = _; rw [Below.heap_alloc _ _ _ hMl]; exact hmap
      have HA2 : Hid ((wr.alloc (.cells #[.int .i64 k, .int .u8 sg] 55)).heap[w.heap.size]? = some (.cells A 31 (0, 0)) ∧ A.size = 8) := ⟨by rw [Below.heap_alloc _ _ _ (by omega)]; exact hA, hAs⟩
      have HST : Hid (Calls Tryd.prog (rdF k) #[.pointer (some ⟨B, 0, none⟩), .agg #[.int .i64 k, .int .u8 sg]] (wr.alloc (.cells #[.int .i64 k, .int .u8 sg] 55)) (Stepped S' base B (.slice (some ⟨g, o, none⟩) t.flat.length cap) s (st.length + sp.length) (wr.alloc (.cells #[.int .i64 k, .int .u8 sg] 55)))) :=
        mread_any HR2.out (HT.out.under hT0 HB2.out) hT0 hs (by omega) hrows (n := (k, sg)) hg hst
      have HRUN2 : Hid (runR (t.flat.take (i + 1)) [] = some S') := hrun'
      have hlI : i < t.flat.length := hlt
      clear HX hr hb hmap hA hAs hrows hrun hrun' hst hg hnr hn hMl
      go_wp2_with fail
      rw [run_rd k hk.1 hk.2, Oper.upon_enter]
      refine HST.out.mono ?_
      rintro e w3 ⟨rfl, rv2, sv2, st2, sp2, hr3, hl3, hrow3, hb3⟩
      have HREL : Hid (i + 1 ≤ t.flat.length ∧ Rows (wl s) S' st2 ∧ RD base w3 B (.slice (some ⟨g, o, none⟩) t.flat.length cap) s rv2 sv2 st2 sp2 ∧ st2.length + sp2.length ≤ i + 1 + sp0.length ∧ w3.heap[w.heap.size + 1]? = some (.map rdEs 9) ∧ (∃ A, w3.heap[w.heap.size]? = some (.cells A 31 (0, 0)) ∧ A.size = 8) ∧ BK base w w3) := by
        refine ⟨hlI, hrow3, hr3, by omega, hb3.m.maps _ _ _ HM2.out, ?_, HB2.out.trans hb3⟩
        obtain ⟨A', h1, h2⟩ := hb3.m.sets _ _ _ HA2.out.1
        exact ⟨A', h1, h2.trans HA2.out.2⟩
      clear hr3 hl3 hrow3 hb3 HST HR2 HB2 HM2 HA2 n1 n2 hlk
      go_wp2_with fail
      go_roundw
      case rel => exact ⟨i + 1, S', rv2, sv2, st2, sp2, HREL.out.1, by go_num, HRUN2.out, HREL.out.2.1, HREL.out.2.2.1, HREL.out.2.2.2.1, HREL.out.2.2.2.2.1, HREL.out.2.2.2.2.2.1, HREL.out.2.2.2.2.2.2⟩
      case measure => simp [intOf]; omega
    · obtain rfl : i = L := by omega
      have hiI : ¬ (i : Int) < i := by omega
      have hS : S = [t] := by
        rw [← HL.out, List.take_length] at hrun
        have := hrun.symm.trans HRUN.out
        exact Option.some.inj this
      subst hS
      obtain ⟨st0, q, rfl, hnil, hq⟩ := hrows.one
      cases hnil
      obtain ⟨qv, qr⟩ := q
      simp only [List.nil_append] at hr hlen hq
      obtain ⟨g, c, hqv, hg1, hg2⟩ := hr.block (x := (qv, qr)) (by simp)
      simp only at hqv hq
      subst hqv
      have HPOP : Hid (Calls Tryd.prog 46 #[.pointer (some ⟨B, 0, none⟩)] wr fun e w' => ∃ rv' sv', e = .returned (.slice (some ⟨g, 0, none⟩) (s.size + 1) c) ∧ RD base w' B (.slice a i cap) s rv' sv' [] (sp ++ [(.slice (some ⟨g, 0, none⟩) (s.size + 1) c, qr)]) ∧ BK base wr w') := mpop_any (st := []) (x := (.slice (some ⟨g, 0, none⟩) (s.size + 1) c, qr)) (by simpa using hr) (by simp) (by simp at hlen; omega)
      obtain ⟨N, hN⟩ : ∃ N, s.size + 1 = N := ⟨_, rfl⟩
      rw [hN] at HPOP
      have HNN : Hid (s.size + 1 = N) := hN
      have hN0 : (0 : Int) < N := by omega
      have HA2 : Hid (wr.heap[w.heap.size]? = some (.cells A 31 (0, 0)) ∧ A.size = 8) := ⟨hA, hAs⟩
      have HQ : Hid (RowOk (Lg t) (wl s) qr) := hq
      have HB2 : Hid (BK base w wr) := hb
      have HSPL : Hid (sp.length + 1 ≤ i + sp0.length) := by simp at hlen; show _ ≤ _; omega
      clear hr hq hb hA hAs hmap hrun hrows hlen hN HR0 HN HRUN HGD c0 c1 f1
      go_wp2_with fail
      refine HPOP.out.mono ?_
      rintro e w4 ⟨rv4, sv4, rfl, hr4, hb4⟩
      obtain ⟨A4, hA4, hs4⟩ := hb4.m.sets _ _ _ HA2.out.1
      have hs8 : A4.size = 8 := hs4.trans HA2.out.2
      obtain ⟨ho, hl4⟩ := hr4.own (g := g) (N := N) (c := c) (r := qr) (by simp) HNN.out
      obtain ⟨h8, z8⟩ := own_at8 ho hl4 0 (by omega)
      obtain ⟨c0, c1, c2, c3, c4, c5, c6, c7⟩ := h8
      simp only [Nat.zero_mul, Nat.zero_add] at c0 c1 c2 c3 c4 c5 c6 c7
      have HE : Hid (EndsOk (Lg t) (wl s) 0 (qr.getD 0 0)) := HQ.out.2 0 (Nat.zero_le _)
      obtain ⟨X, hX⟩ : ∃ X, qr.getD 0 0 = X := ⟨_, rfl⟩
      rw [hX] at HE c0 c1 c2 c3 c4 c5 c6 c7
      have hc8 : ∀ k, k < 8 → ∃ v, w4.cell? ⟨w.heap.size, k, none⟩ = some v := fun k hk => by
        simp only [World.cell?, hA4]
        exact ⟨A4[k]'(by omega), by rw [Array.getElem?_eq_getElem (by omega)]; rfl⟩
      have hf8 : ∀ k, w4.frozen? ⟨w.heap.size, k, none⟩ = false := fun k => by simp [World.frozen?, hA4]
      obtain ⟨v0, d0⟩ := hc8 0 (by decide)
      obtain ⟨v1, d1⟩ := hc8 1 (by decide)
      obtain ⟨v2, d2⟩ := hc8 2 (by decide)
      obtain ⟨v3, d3⟩ := hc8 3 (by decide)
      obtain ⟨v4, d4⟩ := hc8 4 (by decide)
      obtain ⟨v5, d5⟩ := hc8 5 (by decide)
      obtain ⟨v6, d6⟩ := hc8 6 (by decide)
      obtain ⟨v7, d7⟩ := hc8 7 (by decide)
      have f0 := hf8 0
      have f1 := hf8 1
      have f2 := hf8 2
      have f3 := hf8 3
      have f4 := hf8 4
      have f5 := hf8 5
      have f6 := hf8 6
      have f7 := hf8 7
      have HA4 : Hid (w4.heap[w.heap.size]? = some (.cells A4 31 (0, 0)) ∧ A4.size = 8) := ⟨hA4, hs8⟩
      have HB4 : Hid (BK base w w4) := HB2.out.trans hb4
      rw [← HNN.out] at hr4
      have HRD4 : Hid (RD base w4 B (.slice a i cap) s rv4 sv4 [] (sp ++ [(.slice (some ⟨g, 0, none⟩) (s.size + 1) c, qr)])) := hr4
      clear hX ho hl4 hr4 hb4 hs4 hc8 hf8 HPOP HB2 HQ hA4 hs8
      have hbw : base ≤ w.heap.size := by omega
      go_wp2_with fail
      refine bodyPost_ret (results_set rfl rfl (f := word X) (st8_any HA4.out.1 HA4.out.2 (word X))) rfl ⟨X, rfl, HE.out, put8_below HB4.out hbw (RTy.set HA4.out.1) 0 X, fun hs1 => ⟨rv4, sv4, sp ++ [(.slice (some ⟨g, 0, none⟩) (s.size + 1) c, qr)], ?_, ?_⟩⟩
      · have := HRD4.out.beside HA4.out.1 HA4.out.2 hs1 (fun k hk => put8_other w4 w.heap.size 0 X k hk)
        rw [HL.out]
        exact this
      · have := HSPL.out
        rw [HL.out]
        simp
        omega
end Go.Proofs.YtfdkkiecibdblaaDoor

namespace Go.Proofs.YtfdkkiecibdblaaDoor
open Go Go.RowKit
set_option linter.unusedVariables false

/-- Does a tree say a word? -/
noncomputable def memL (t : Tr) (u : List Int) : Bool := @decide (Lg t u) (Classical.propDecidable _)
theorem memL_iff (t : Tr) (u : List Int) : memL t u = true ↔ Lg t u := by
  unfold memL
  exact @decide_eq_true_iff _ (Classical.propDecidable _)
/-- What Words answers: the words of at most n letters that the tree says. -/
noncomputable def ansW (t : Tr) (k n : Nat) : List (List Int) := (List.range (n + 1)).flatMap fun l => (allW k l).filter (memL t)
/-- What Words answers as its error. -/
def wordsE (ts : List Nd) (k n : Int) : Int := if wrong ts = 0 then (if 1 ≤ k ∧ k ≤ 8 then (if n < 0 ∨ 511 < n then 11 else if 1000 < sumP k.toNat (n.toNat + 1) then 6 else 0) else 20) else wrong ts
theorem allW_len (k l : Nat) : (allW k l).length = k ^ l := by simp [allW]
theorem allW_get (k l c : Nat) (h : c < k ^ l) : (allW k l)[c]? = some (wd k l c) := by
  unfold allW
  rw [List.getElem?_map, List.getElem?_range h]
  rfl
theorem filt_next (t : Tr) (k l c : Nat) (h : c < k ^ l) : ((allW k l).take (c + 1)).filter (memL t) = ((allW k l).take c).filter (memL t) ++ (if memL t (wd k l c) = true then [wd k l c] else []) := by
  rw [List.take_add_one, allW_get k l c h, List.filter_append]
  simp [List.filter_cons]
theorem pow_le_sum {k l n : Nat} (h : l ≤ n) : k ^ l ≤ sumP k (n + 1) := by
  have := sumP_le (k := k) (i := l + 1) (j := n + 1) (by omega)
  simp only [sumP] at this ⊢
  omega
/-- Dividing: what is new with the next word. -/
theorem div_new {k e m : Nat} (hk : 1 ≤ k) (h : (m + 1) % k ^ e = 0) : (m + 1) / k ^ e = m / k ^ e + 1 := by
  have hK : 0 < k ^ e := Nat.pow_pos (by omega)
  obtain ⟨q, hq⟩ : ∃ q, m + 1 = q * k ^ e := ⟨(m + 1) / k ^ e, by have := Nat.div_add_mod (m + 1) (k ^ e); rw [h, Nat.add_zero] at this; rw [Nat.mul_comm]; exact this.symm⟩
  have hq1 : 1 ≤ q := by
    cases q with
    | zero => simp at hq
    | succ q => omega
  have e2 : m / k ^ e = q - 1 := by
    have : m = (q - 1) * k ^ e + (k ^ e - 1) := by
      have : q * k ^ e = (q - 1) * k ^ e + k ^ e := by rw [← Nat.succ_mul]; congr 1; omega
      omega
    rw [this, Nat.mul_comm, Nat.mul_add_div hK, Nat.div_eq_of_lt (by omega), Nat.add_zero]
  rw [e2, hq, Nat.mul_div_cancel _ hK]
  omega
theorem div_old {k e d m : Nat} (hk : 1 ≤ k) (h : (m + 1) % k ^ e = 0) (hd : (m / k ^ e) % k + 1 < k) (hed : e < d) : (m + 1) / k ^ d = m / k ^ d := by
  have h1 := div_new hk h
  have e3 : k ^ d = k ^ e * k * k ^ (d - e - 1) := by rw [← Nat.pow_succ, ← Nat.pow_add]; congr 1; omega
  rw [e3, ← Nat.div_div_eq_div_mul, ← Nat.div_div_eq_div_mul, ← Nat.div_div_eq_div_mul, ← Nat.div_div_eq_div_mul, h1]
  congr 1
  have h6 := Nat.div_add_mod (m / k ^ e) k
  conv => lhs; rw [← h6, Nat.add_assoc, Nat.mul_add_div (by omega), Nat.div_eq_of_lt hd, Nat.add_zero]
theorem mod_sub {k e e' m : Nat} (h : (m + 1) % k ^ e = 0) (hee : e' ≤ e) : (m + 1) % k ^ e' = 0 := by
  have e3 : k ^ e = k ^ e' * k ^ (e - e') := by rw [← Nat.pow_add]; congr 1; omega
  have := Nat.dvd_of_mod_eq_zero h
  rw [e3] at this
  exact Nat.mod_eq_zero_of_dvd (Nat.dvd_trans (Nat.dvd_mul_right _ _) this)
/-- How many words of l letters are gone through, ahead of the word with number m whose new beginnings have f letters and more. -/
def cntW (k n m f l : Nat) : Nat := if l < f then m / k ^ (n - l) + 1 else m / k ^ (n - l)
theorem cnt_next {k n m f l : Nat} (hk : 1 ≤ k) (hf : f ≤ n) (h : (m + 1) % k ^ (n - f) = 0) (hd : (m / k ^ (n - f)) % k + 1 < k) (hl : l ≤ n) : cntW k n (m + 1) f l = m / k ^ (n - l) + 1 := by
  unfold cntW
  by_cases c : l < f
  · rw [if_pos c, div_old hk h hd (by omega)]
  · rw [if_neg c, div_new hk (mod_sub h (by omega))]
theorem cnt_last {k n m l : Nat} (hk : 1 ≤ k) (h : m + 1 = k ^ n) (hl : l ≤ n) : m / k ^ (n - l) + 1 = k ^ l := by
  have e : k ^ n = k ^ l * k ^ (n - l) := by rw [← Nat.pow_add]; congr 1; omega
  have hm : (m + 1) % k ^ (n - l) = 0 := by rw [h, e, Nat.mul_mod_left]
  rw [← div_new hk hm, h, e, Nat.mul_div_cancel _ (Nat.pow_pos (by omega))]
/-- The lists that are found. -/
structure FS (base : Nat) (w : World) (F n : Nat) (c : Nat) (vs : List Value) (bss : List (List ByteArray)) : Prop where
  row : w.ownsRow base 42 1 (.slice (some ⟨F, 0, none⟩) (n + 1) c) (n + 1) vs
  vlen : vs.length = n + 1
  blen : bss.length = n + 1
  each : ∀ i, i < n + 1 → w.ownsRow base 9 1 (vs.getD i (.slice none 0 0)) (bss.getD i []).length ((bss.getD i []).map Value.string)
  apart : ∀ i j, i < n + 1 → j < n + 1 → i ≠ j → ∀ b, (vs.getD i (.slice none 0 0)).ownBlock = some b → (vs.getD j (.slice none 0 0)).ownBlock ≠ some b
  nils : ∀ i, i < n + 1 → bss.getD i [] = [] → vs.getD i (.slice none 0 0) = .slice none 0 0
/-- It stays where blocks of its types stay. -/
theorem FS.keep {base : Nat} {w w' : World} {F n c : Nat} {vs : List Value} {bss : List (List ByteArray)} (h : FS base w F n c vs bss) (hk : ∀ (k : Nat) (A : Array Value) (ty : TypeId) (fr : Nat × Nat), (ty = 9 ∨ ty = 42) → w.heap[k]? = some (Obj.cells A ty fr) → w'.heap[k]? = some (Obj.cells A ty fr)) : FS base w' F n c vs bss := by
  have kp : ∀ {ty : TypeId} {sz : Nat} {v : Value} {m : Nat} {xs : List Value}, (ty = 9 ∨ ty = 42) → w.ownsRow base ty sz v m xs → w'.ownsRow base ty sz v m xs := fun {ty sz v m xs} ht ho => own_of_heap ho (fun b hb => by
    obtain ⟨cur, hc⟩ := own_type ho b hb
    rw [hc]
    exact hk b cur ty _ ht hc)
  exact ⟨kp (.inr rfl) h.row, h.vlen, h.blen, fun i hi => kp (.inl rfl) (h.each i hi), h.apart, h.nils⟩
theorem FS.km {base : Nat} {w w' : World} {F n c : Nat} {vs : List Value} {bss : List (List ByteArray)} (h : FS base w F n c vs bss) (hk : KM w w') : FS base w' F n c vs bss := h.keep fun k A ty fr ht hc => by
  rcases ht with rfl | rfl
  · exact hk.oth k A _ fr (by decide) (by decide) (by decide) hc
  · exact hk.oth k A _ fr (by decide) (by decide) (by decide) hc
theorem FS.stay {base : Nat} {w w' : World} {F n c : Nat} {vs : List Value} {bss : List (List ByteArray)} (h : FS base w F n c vs bss) (hb : Below w.heap.size w w') : FS base w' F n c vs bss := h.km (KM.of hb)
theorem WBy.km {w w' : World} {G : Nat} {cs : List Int} (h : WBy w G cs) (hk : KM w w') : WBy w' G cs := by
  obtain ⟨L, h1, h2⟩ := h.ex
  exact ⟨L, hk.oth _ _ _ _ (by decide) (by decide) (by decide) h1, h2⟩
/-- The reader stays where a block of another type is another. -/
theorem RD.besideT {base : Nat} {w w' : World} {B : Nat} {tv : Value} {s : ByteArray} {rv sv : Value} {st sp : List RwP} (h : RD base w B tv s rv sv st sp) (hk : ∀ (k : Nat) (A : Array Value) (ty : TypeId) (fr : Nat × Nat), (ty = 31 ∨ ty = 65 ∨ ty = 61) → w.heap[k]? = some (Obj.cells A ty fr) → w'.heap[k]? = some (Obj.cells A ty fr)) : RD base w' B tv s rv sv st sp := by
  have kp : ∀ {ty : TypeId} {sz : Nat} {v : Value} {m : Nat} {xs : List Value}, (ty = 31 ∨ ty = 65 ∨ ty = 61) → w.ownsRow base ty sz v m xs → w'.ownsRow base ty sz v m xs := fun {ty sz v m xs} ht ho => own_of_heap ho (fun b hb => by
    obtain ⟨cur, hc⟩ := own_type ho b hb
    rw [hc]
    exact hk b cur ty _ ht hc)
  exact ⟨hk _ _ _ _ (.inr (.inr rfl)) h.blk, h.from_, kp (.inr (.inl rfl)) h.rows, kp (.inr (.inl rfl)) h.spare, h.ne, fun x hx => kp (.inl rfl) (h.rowv x hx), h.apart, h.len⟩
/-- The next word of the same length. -/
theorem RD.reword {base : Nat} {w : World} {B : Nat} {tv : Value} {s s' : ByteArray} {rv sv : Value} {sp : List RwP} (h : RD base w B tv s rv sv [] sp) (hs : s'.size = s.size) : RD base (w.setCell ⟨B, 1, none⟩ (.string s')) B tv s' rv sv [] sp := by
  have hoth : ∀ {ty : TypeId} {sz : Nat} {v : Value} {m : Nat} {xs : List Value}, ty ≠ 61 → w.ownsRow base ty sz v m xs → (w.setCell ⟨B, 1, none⟩ (.string s')).ownsRow base ty sz v m xs := fun {ty sz v m xs} ht ho => own_of_heap ho (fun b hb => Below.heap_setCell _ _ _ _ (fun e => by
    obtain ⟨cur, hc⟩ := own_type ho b hb
    have e' : b = B := e
    rw [e', h.blk] at hc
    simp at hc
    exact ht hc.2.symm))
  refine ⟨?_, h.from_, hoth (by decide) h.rows, hoth (by decide) h.spare, h.ne, fun x hx => hoth (by decide) (h.rowv x hx), h.apart, fun x hx => by rw [hs]; exact h.len x hx⟩
  rw [heap_setCell_eq w B 1 _ _ _ h.blk]
  rfl
end Go.Proofs.YtfdkkiecibdblaaDoor

namespace Go.Proofs.YtfdkkiecibdblaaDoor
open Go Go.RowKit
set_option linter.unusedVariables false

theorem getD_set {α : Type} (l : List α) (i j : Nat) (x d : α) (h : i < l.length) : (l.set i x).getD j d = if j = i then x else l.getD j d := by
  rw [List.getD_eq_getElem?_getD, List.getD_eq_getElem?_getD]
  by_cases e : j = i
  · subst e; rw [if_pos rfl, List.getElem?_set_self h]; rfl
  · rw [if_neg e, List.getElem?_set_ne (fun h => e h.symm)]
theorem FS.push {base : Nat} {w w3 : World} {F n c l g' c' : Nat} {vs : List Value} {bss : List (List ByteArray)} {s : ByteArray} {O : Obj} (h : FS base w F n c vs bss) (hl : l < n + 1) (hb : base ≤ w.heap.size)
    (ho : w3.ownsRow base 9 1 (.slice (some ⟨g', 0, none⟩) ((bss.getD l []).length + 1) c') ((bss.getD l []).length + 1) ((bss.getD l []).map Value.string ++ [.string s])) (hg : (w.alloc O).grownBy w3 (vs.getD l (.slice none 0 0)).ownBlock) (hp : (vs.getD l (.slice none 0 0)).ownBlock = some g' ∨ g' = w.heap.size + 1) :
    FS base (w3.setCell ⟨F, l, none⟩ (.slice (some ⟨g', 0, none⟩) ((bss.getD l []).length + 1) c')) F n c (vs.set l (.slice (some ⟨g', 0, none⟩) ((bss.getD l []).length + 1) c')) (bss.set l (bss.getD l [] ++ [s])) ∧ (∀ (k : Nat) (A : Array Value) (ty : TypeId) (fr : Nat × Nat), ty ≠ 9 → ty ≠ 42 → w.heap[k]? = some (Obj.cells A ty fr) → (w3.setCell ⟨F, l, none⟩ (.slice (some ⟨g', 0, none⟩) ((bss.getD l []).length + 1) c')).heap[k]? = some (Obj.cells A ty fr)) ∧ Below base w (w3.setCell ⟨F, l, none⟩ (.slice (some ⟨g', 0, none⟩) ((bss.getD l []).length + 1) c')) := by
  obtain ⟨nv, hnv⟩ : ∃ nv, Value.slice (some ⟨g', 0, none⟩) ((bss.getD l []).length + 1) c' = nv := ⟨_, rfl⟩
  have hnb : nv.ownBlock = some g' := by rw [← hnv]; rfl
  rw [hnv] at ho ⊢
  have hel := h.each l hl
  have keep1 : ∀ k, k < w.heap.size → (vs.getD l (.slice none 0 0)).ownBlock ≠ some k → w3.heap[k]? = w.heap[k]? := fun k hk hne => by
    rw [hg.block k (by simp; omega) (fun e => hne e.symm), Below.heap_alloc _ _ _ hk]
  have hFt := own_type h.row F rfl
  obtain ⟨curF, hcF⟩ := hFt
  have hFl : F < w.heap.size := (Array.getElem?_eq_some_iff.1 hcF).1
  have hFne : (vs.getD l (.slice none 0 0)).ownBlock ≠ some F := fun e => by
    obtain ⟨cur, hc⟩ := own_type hel F e
    rw [hcF] at hc
    simp at hc
  have hF3 : w3.heap[F]? = w.heap[F]? := keep1 F hFl hFne
  have hrow3 : w3.ownsRow base 42 1 (.slice (some ⟨F, 0, none⟩) (n + 1) c) (n + 1) vs := own_of_heap h.row (fun b hb' => by
    have : b = F := by simpa [Value.ownBlock] using hb'.symm
    rw [this]; exact hF3)
  have hst : ∀ {v : Value} {m : Nat} {xs : List Value}, w3.ownsRow base 9 1 v m xs → (w3.setCell ⟨F, l, none⟩ nv).ownsRow base 9 1 v m xs := fun {v m xs} hq => own_of_heap hq (fun b hb' => Below.heap_setCell _ _ _ _ (fun e => by
    have e' : b = F := e
    obtain ⟨cur, hc⟩ := own_type hq b hb'
    rw [e', hF3, hcF] at hc
    simp at hc))
  refine ⟨⟨?_, by rw [List.length_set]; exact h.vlen, by rw [List.length_set]; exact h.blen, fun i hi => ?_, fun i j hi hj hij b hb1 hb2 => ?_, fun i hi he => ?_⟩, fun k A ty fr t1 t2 hk => ?_, ?_⟩
  · exact (hrow3.stored l nv).1
  · rw [getD_set vs l i nv _ (by have := h.vlen; omega), getD_set bss l i _ _ (by have := h.blen; omega)]
    by_cases e : i = l
    · rw [if_pos e, if_pos e, List.length_append, List.length_singleton, List.map_append]
      exact hst ho
    · rw [if_neg e, if_neg e]
      have hei := h.each i hi
      exact hst (own_of_heap hei (fun b hb' => keep1 b (hei.lt b hb').2 (fun e2 => h.apart l i hl hi (fun h => e h.symm) b e2 hb')))
  · rw [getD_set vs l i nv _ (by have := h.vlen; omega)] at hb1
    rw [getD_set vs l j nv _ (by have := h.vlen; omega)] at hb2
    by_cases e : i = l
    · rw [if_pos e, hnb] at hb1
      rw [if_neg (fun e2 => hij (e.trans e2.symm))] at hb2
      have hbg : g' = b := Option.some.inj hb1
      rcases hp with hp | hp
      · exact h.apart l j hl hj (fun e2 => hij (e.trans e2)) g' hp (by rw [hbg]; exact hb2)
      · have := ((h.each j hj).lt b hb2).2
        omega
    · rw [if_neg e] at hb1
      by_cases e2 : j = l
      · rw [if_pos e2, hnb] at hb2
        have hbg : g' = b := Option.some.inj hb2
        rcases hp with hp | hp
        · exact h.apart l i hl hi (fun e3 => e e3.symm) g' hp (by rw [hbg]; exact hb1)
        · have := ((h.each i hi).lt b hb1).2
          omega
      · rw [if_neg e2] at hb2
        exact h.apart i j hi hj hij b hb1 hb2
  · rw [getD_set bss l i _ _ (by have := h.blen; omega)] at he
    rw [getD_set vs l i nv _ (by have := h.vlen; omega)]
    by_cases e : i = l
    · rw [if_pos e] at he; simp at he
    · rw [if_neg e] at he ⊢
      exact h.nils i hi he
  · have hkF : k ≠ F := fun e => by
      rw [e, hcF] at hk
      simp at hk
      exact t2 hk.2.1.symm
    rw [Below.heap_setCell _ _ _ _ hkF]
    rw [keep1 k (Array.getElem?_eq_some_iff.1 hk).1 (fun e => by
      obtain ⟨cur, hc⟩ := own_type hel k e
      rw [hk] at hc
      simp at hc
      exact t1 hc.2.1)]
    exact hk
  · have h1 : Below base w (w.alloc O) := (Below.refl _ _).alloc hb _
    exact (h1.grown hg (by simp; omega) (fun k hk => (hel.lt k hk).1)).setCell (p := ⟨F, l, none⟩) (h.row.lt F rfl).1 _

theorem Tryd.info_strs : (Tryd.prog.info? 42).map (fun i => (i.zero, i.size, i.bytes)) = some (some (.slice none 0 0), 1, 24) := by kernel_rfl
def mkF (N : Nat) : Obj := .cells (madeCells (Value.slice none 0 0).cells (N * 1)) 42
theorem run_makeF (N : Nat) (hn : N ≤ 4096) (w0 : World) : (Instr.makeSlice 68 (.int .i64 (N : Int)) (.int .i64 (N : Int))).run Tryd.prog w0 = .ok (.slice (some ⟨w0.heap.size, 0, none⟩) N N) (w0.alloc (mkF N)) := by
  obtain ⟨i1, hi1, hy0, hy1, hy2⟩ := info_parts Tryd.info_strs
  have := run_make (P := Tryd.prog) w0 68 42 i1 (.slice none 0 0) Tryd.underlying68 hi1 hy0 .i64 .i64 (N : Int) (N : Int) (by omega) (by omega) (by rw [hy2]; omega) (by omega)
  rw [hy1, Int.toNat_natCast] at this
  exact this
theorem made_F (N : Nat) : (madeCells (Value.slice none 0 0).cells (N * 1)).toList = List.replicate N (.slice none 0 0) := by
  apply List.ext_getElem
  · simp [madeCells]
  · intro i h1 h2
    simp [madeCells, Value.cells, Nat.mod_one]
theorem rep_getD {α : Type} (N i : Nat) (x : α) : (List.replicate N x).getD i x = x := by
  rw [List.getD_eq_getElem?_getD, List.getElem?_replicate]
  split <;> rfl
theorem FS.start {base : Nat} {w : World} (n : Nat) (hn : n ≤ 511) (hb : base ≤ w.heap.size) : FS base (w.alloc (mkF (n + 1))) w.heap.size n (n + 1) (List.replicate (n + 1) (.slice none 0 0)) (List.replicate (n + 1) []) := by
  refine ⟨⟨by simp, .inr ⟨w.heap.size, n + 1, _, rfl, hb, heap_alloc_new w _, Nat.le_refl _, by unfold maxLen; omega, by rw [size_madeCells], ?_⟩⟩, by simp, by simp, fun i hi => ?_, fun i j hi hj hij b hb1 hb2 => ?_, fun i hi _ => rep_getD _ _ _⟩
  · rw [made_F, List.take_of_length_le (by simp)]
  · rw [rep_getD, rep_getD]
    exact ⟨rfl, .inl ⟨rfl, rfl⟩⟩
  · rw [rep_getD] at hb1
    cases hb1

/-- A word's bytes as a text. -/
def bw (cs : List Int) : ByteArray := ⟨(cs.map fun x => UInt8.ofNat x.toNat).toArray⟩
theorem wl_bw {cs : List Int} (h : ∀ x ∈ cs, 0 ≤ x ∧ x ≤ 255) : wl (bw cs) = cs := by
  unfold wl bw
  simp only [List.map_map]
  conv => rhs; rw [← List.map_id cs]
  apply List.map_congr_left
  intro x hx
  have := h x hx
  simp
  omega
theorem bw_size (cs : List Int) : (bw cs).size = cs.length := by
  show ((cs.map fun x => UInt8.ofNat x.toNat).toArray).size = _
  simp
theorem wd_byte {k n m : Nat} (hk1 : 1 ≤ k) (hk8 : k ≤ 8) : ∀ x ∈ wd k n m, 97 ≤ x ∧ x ≤ 104 := by
  intro x hx
  unfold wd at hx
  rw [List.mem_map] at hx
  obtain ⟨i, _, rfl⟩ := hx
  have : (m / k ^ (n - 1 - i)) % k < k := Nat.mod_lt _ (by omega)
  omega
theorem wd_inj {k n m m' : Nat} (hk : 1 ≤ k) (hm : m < k ^ n) (hm' : m' < k ^ n) (h : wd k n m = wd k n m') : m = m' := by
  have key : ∀ e, e ≤ n → m / k ^ (n - e) = m' / k ^ (n - e) := by
    intro e
    induction e with
    | zero => intro _; rw [Nat.sub_zero, Nat.div_eq_of_lt hm, Nat.div_eq_of_lt hm']
    | succ e ih =>
      intro he
      have h1 := ih (by omega)
      have hd : (wd k n m)[e]? = (wd k n m')[e]? := by rw [h]
      rw [wd_get k n m e (by omega), wd_get k n m' e (by omega)] at hd
      have hd2 : (m / k ^ (n - 1 - e)) % k = (m' / k ^ (n - 1 - e)) % k := by
        have := Option.some.inj hd
        omega
      have e1 : n - (e + 1) = n - 1 - e := by omega
      have e2 : n - e = (n - 1 - e) + 1 := by omega
      rw [e2, Nat.pow_succ, ← Nat.div_div_eq_div_mul, ← Nat.div_div_eq_div_mul] at h1
      rw [e1]
      have q1 := Nat.div_add_mod (m / k ^ (n - 1 - e)) k
      have q2 := Nat.div_add_mod (m' / k ^ (n - 1 - e)) k
      rw [h1, hd2] at q1
      omega
  have := key n (Nat.le_refl _)
  rw [Nat.sub_self, Nat.pow_zero, Nat.div_one, Nat.div_one] at this
  exact this
theorem WBy.inj {w : World} {G : Nat} {cs cs' : List Int} (h : WBy w G cs) (h' : WBy w G cs') (hl : cs.length = cs'.length) : cs = cs' := by
  obtain ⟨L, h1, h2⟩ := h.ex
  obtain ⟨L', h3, h4⟩ := h'.ex
  rw [h1] at h3
  have e : L = L' := by simpa using h3
  rw [e, hl, h4] at h2
  have hinj : ∀ x y : Int, Value.int .u8 x = Value.int .u8 y → x = y := fun x y h => by cases h; rfl
  exact ((List.map_inj_right (fun x y h => hinj x y h)).1 h2).symm
/-- The number of the word in block G. -/
noncomputable def numG (k n G : Nat) (w : World) : Nat := open Classical in if h : ∃ m, m < k ^ n ∧ WBy w G (wd k n m) then Classical.choose h else 0
theorem numG_eq {k n G m : Nat} {w : World} (hk : 1 ≤ k) (hm : m < k ^ n) (h : WBy w G (wd k n m)) : numG k n G w = m := by
  unfold numG
  have hx : ∃ m, m < k ^ n ∧ WBy w G (wd k n m) := ⟨m, hm, h⟩
  rw [dif_pos hx]
  have hc := Classical.choose_spec hx
  exact wd_inj hk hc.1 hm (hc.2.inj h (by rw [wd_len, wd_len]))
/-- Bytes as a text. -/
theorem conv_word {w : World} {G : Nat} {cs : List Int} (h : WBy w G cs) (hb : ∀ x ∈ cs, 0 ≤ x ∧ x ≤ 255) (l cap : Nat) (hl : l ≤ cs.length) :
    (convert 69 9 (.slice (some ⟨G, 0, none⟩) l cap)).run Tryd.prog w = .ok (.string (bw (cs.take l))) w := by
  have hlen : ((cs.take l).map fun x => UInt8.ofNat x.toNat).length = l := by simp; omega
  have h2 := run_convert_bytes_back (P := Tryd.prog) w 69 9 5 ⟨G, 0, none⟩ cap ((cs.take l).map fun x => UInt8.ofNat x.toNat) Tryd.underlying69 Tryd.underlying5 Tryd.underlying9 (fun j hj => by
    rw [hlen] at hj
    have hjc : j < cs.length := by omega
    rw [Addr.add_lit, Nat.zero_add, (h.cell j hjc).1]
    have hx := hb (cs[j]) (List.getElem_mem _)
    simp only [List.getElem_map, List.getElem_take]
    rw [List.getD_eq_getElem?_getD, List.getElem?_eq_getElem hjc]
    simp
    omega)
  rw [hlen] at h2
  exact h2
end Go.Proofs.YtfdkkiecibdblaaDoor

namespace Go.Proofs.YtfdkkiecibdblaaDoor
open Go Go.RowKit
set_option linter.unusedVariables false

/-- What is found, so many words of each length. -/
def Fnd (t : Tr) (k n : Nat) (bss : List (List ByteArray)) (cn : Nat → Nat) : Prop := ∀ l, l ≤ n → (bss.getD l []).map wl = ((allW k l).take (cn l)).filter (memL t)
theorem Fnd.congr {t : Tr} {k n : Nat} {bss : List (List ByteArray)} {c1 c2 : Nat → Nat} (h : Fnd t k n bss c1) (he : ∀ l, l ≤ n → c1 l = c2 l) : Fnd t k n bss c2 := fun l hl => by rw [← he l hl]; exact h l hl
/-- The reader and the word, ahead of the word with number m. -/
structure WS (B G k n : Nat) (tv : Value) (m : Nat) (wr : World) : Prop where
  rd : ∃ s0 rv sv sp, wr.heap[B]? = some (.cells #[tv, .string s0, rv, sv] 61 (0, 0)) ∧ (∀ s : ByteArray, s.size = n → RD B (wr.setCell ⟨B, 1, none⟩ (.string s)) B tv s rv sv [] sp) ∧ sp.length ≤ m * 4001
  wb : WBy wr G (wd k n m)
theorem rd_over {B n : Nat} {tv rv sv : Value} {s0 : ByteArray} {sp : List RwP} {wr W : World} (hblk : wr.heap[B]? = some (.cells #[tv, .string s0, rv, sv] 61 (0, 0))) (h : ∀ s : ByteArray, s.size = n → RD B (wr.setCell ⟨B, 1, none⟩ (.string s)) B tv s rv sv [] sp) (hb : Below wr.heap.size wr W) (s : ByteArray) (hs : s.size = n) : RD B (W.setCell ⟨B, 1, none⟩ (.string s)) B tv s rv sv [] sp := by
  have hBl := (Array.getElem?_eq_some_iff.1 hblk).1
  have hblk2 : W.heap[B]? = some (.cells #[tv, .string s0, rv, sv] 61 (0, 0)) := (hb.block B hBl).trans hblk
  refine (h s hs).kept (fun k _ hk => ?_)
  have hk' : k < wr.heap.size := by simpa using hk
  by_cases e : k = B
  · subst e
    rw [heap_setCell_eq W k 1 _ _ _ hblk2, heap_setCell_eq wr k 1 _ _ _ hblk]
  · rw [Below.heap_setCell _ _ _ _ e, Below.heap_setCell _ _ _ _ e]
    exact hb.block k hk'

theorem flat_map_getD {k n : Nat} {t : Tr} {bss : List (List ByteArray)} (hb : bss.length = n + 1) (h : Fnd t k n bss (fun l => k ^ l)) : bss.flatten.map wl = ansW t k n := by
  rw [List.map_flatten]
  unfold ansW
  rw [List.flatMap_def]
  congr 1
  apply List.ext_getElem
  · simp [hb]
  · intro i h1 h2
    have hi : i < bss.length := by simpa using h1
    have := h i (by omega)
    rw [List.getD_eq_getElem?_getD, List.getElem?_eq_getElem hi, List.take_of_length_le (by rw [allW_len]; exact Nat.le_refl _)] at this
    simpa using this
theorem ans_len {k n : Nat} {t : Tr} : (ansW t k n).length ≤ sumP k (n + 1) := by
  unfold ansW
  have : ∀ N, ((List.range N).flatMap fun l => (allW k l).filter (memL t)).length ≤ sumP k N := by
    intro N
    induction N with
    | zero => simp [sumP]
    | succ N ih =>
      rw [List.range_succ, List.flatMap_append, List.length_append]
      have h2 : (([N] : List Nat).flatMap fun l => (allW k l).filter (memL t)).length ≤ k ^ N := by
        simp only [List.flatMap_cons, List.flatMap_nil, List.append_nil]
        have := List.length_filter_le (memL t) (allW k N)
        rw [allW_len] at this
        exact this
      simp only [sumP]
      omega
  exact this (n + 1)
theorem cat_found {base : Nat} {w : World} {F n k N : Nat} {vs : List Value} {bss : List (List ByteArray)} {t : Tr} (h : FS base w F n (n + 1) vs bss) (hn : n ≤ 511) (hs : sumP k (n + 1) ≤ 1000) (hf : Fnd t k n bss (fun l => k ^ l)) (hN : n + 1 = N) :
    Calls Tryd.prog 37 #[.slice (some ⟨F, 0, none⟩) N N] w fun e w' => ∃ bs, (∃ u, e = .returned u ∧ SReads w' u bs) ∧ bs.map wl = ansW t k n ∧ Below w.heap.size w w' := by
  have hlr : LReads w F bss := by
    refine ⟨(h.row.lt F rfl).2, fun i hi => ?_⟩
    have hin : i < n + 1 := by rw [← h.blen]; exact hi
    have hc := h.row.cells (g := F) rfl i (vs.getD i (.slice none 0 0)) (by rw [List.getD_eq_getElem?_getD, List.getElem?_eq_getElem (by rw [h.vlen]; exact hin)]; rfl)
    rw [Addr.add_lit, Nat.zero_add] at hc
    exact ⟨_, hc, own_sreadsB (h.each i hin), h.nils i hin⟩
  have hans := flat_map_getD h.blen hf
  have hlen : bss.flatten.length ≤ 8000 := by
    have h1 : (bss.flatten.map wl).length ≤ sumP k (n + 1) := by rw [hans]; exact ans_len
    rw [List.length_map] at h1
    omega
  have hc := concat_any (c := N) hlr (by rw [h.blen]; omega) hlen
  rw [h.blen, hN] at hc
  refine hc.mono ?_
  rintro e w' ⟨u, h1, h2, h3⟩
  exact ⟨bss.flatten, ⟨u, h1, h2⟩, hans, h3⟩

set_option maxHeartbeats 4000000 in
set_option maxRecDepth 100000 in
theorem mWords_ok {w : World} {v : Value} {ts : List Nd} (k n : Nat) (hk1 : 1 ≤ k) (hk8 : k ≤ 8) (hn : n ≤ 511) (hs : sumP k (n + 1) ≤ 1000) (hw0 : wrong ts = 0) (hv : NReads w v ts) (hP : PTab w) (hT : TzTab w) {t : Tr} (ht : t.ok) (hf : t.flat = ts) :
    Calls Tryd.prog 18 #[.int .i64 (k : Int), v, .int .i64 (n : Int)] w fun e w' => ∃ u bs, e = .returned (.tuple #[u, .int .i64 0]) ∧ SReads w' u bs ∧ bs.map wl = ansW t k n ∧ Below w.heap.size w w' := by
  have HTE : Hid (Calls Tryd.prog 26 #[v] w fun e w' => e = .returned (.int .i64 0) ∧ Below w.heap.size w w') := by
    have := mtreeErr_any v ts w hv (by have := (wrong_zero hw0).1; omega) hP
    rw [hw0] at this
    exact this
  have HTM : Hid (∀ W : World, Calls Tryd.prog 34 #[.int .i64 (k : Int), .int .i64 (n : Int)] W fun e w' => e = .returned (.bool false) ∧ W = w') := fun W => by
    have := mtooMany_any k n hk1 hk8 hn W
    rw [decide_eq_false (by omega)] at this
    exact this
  have HV : Hid (NReads w v ts) := hv
  obtain ⟨va, vc, hva, _⟩ := hv
  subst hva
  obtain ⟨L, HLL⟩ : ∃ L, Hid (ts.length = L) := ⟨_, rfl⟩
  rw [HLL.out] at HV HTE ⊢
  have h1 : ¬ (k : Int) < 1 := by omega
  have h2 : ¬ (8 : Int) < k := by omega
  have h3 : ¬ (n : Int) < 0 := by omega
  have h4 : ¬ (511 : Int) < n := by omega
  obtain ⟨N, HN⟩ : ∃ N, Hid (n + 1 = N) := ⟨_, rfl⟩
  have hwN : IntKind.i64.wrap ((n : Int) + 1) = (N : Int) := by rw [IntKind.wrap_i64]; have := HN.out; omega
  have hmk := run_makeF N (by have := HN.out; omega)
  go_enter Tryd.func18, Tryd.ntmps18
  go_wp2_with fail
  refine HTE.out.mono ?_
  rintro e w1 ⟨rfl, hb1⟩
  have B1 : Hid (Below w.heap.size w w1) := hb1
  clear hb1
  go_wp2_with fail
  refine (HTM.out _).mono ?_
  rintro e w1' ⟨rfl, rfl⟩
  go_wp2_with fail
  have HREP : Hid (∀ (W : World) (g : Nat), W.cell? ⟨g, 0, none⟩ = some (.int .u8 97) → Calls Tryd.prog 35 #[.slice (some ⟨g, 0, none⟩) 1 1, .int .i64 (n : Int)] W fun e w' => ∃ c, e = .returned (.slice (some ⟨W.heap.size, 0, none⟩) n c) ∧ n ≤ c ∧ WBy w' W.heap.size (List.replicate n 97) ∧ Below W.heap.size W w') := fun W g hc => repeat_any n hn W g hc
  obtain ⟨W3, hW3⟩ : ∃ W3, ((w1.alloc (.cells #[.slice va L vc, .string ⟨#[]⟩, .slice none 0 0, .slice none 0 0] 61)).alloc (mkF N)).alloc (.cells #[.int .u8 97] 5) = W3 := ⟨_, rfl⟩
  rw [hW3]
  have hb3 : Below w1.heap.size w1 W3 := by rw [← hW3]; exact (((Below.refl _ _).alloc (Nat.le_refl _) _).alloc (by simp) _).alloc (by simp; omega) _
  have hsz3 : W3.heap.size = w1.heap.size + 3 := by rw [← hW3]; simp
  have hlit : W3.heap[w1.heap.size + 1 + 1]? = some (.cells #[.int .u8 97] 5 (0, 0)) := by
    rw [← hW3]
    have := heap_alloc_last ((w1.alloc (.cells #[.slice va L vc, .string ⟨#[]⟩, .slice none 0 0, .slice none 0 0] 61)).alloc (mkF N)) (.cells #[.int .u8 97] 5)
    simpa using this
  have hblk3 : W3.heap[w1.heap.size]? = some (.cells #[.slice va L vc, .string ⟨#[]⟩, .slice none 0 0, .slice none 0 0] 61 (0, 0)) := by
    rw [← hW3, Below.heap_alloc _ _ _ (by simp; omega), Below.heap_alloc _ _ _ (by simp)]
    exact heap_alloc_last w1 _
  have hFS3 : FS w1.heap.size W3 (w1.heap.size + 1) n (n + 1) (List.replicate (n + 1) (.slice none 0 0)) (List.replicate (n + 1) []) := by
    have h0 := FS.start (base := w1.heap.size) (w := w1.alloc (.cells #[.slice va L vc, .string ⟨#[]⟩, .slice none 0 0, .slice none 0 0] 61)) n hn (by simp)
    rw [HN.out] at h0
    rw [← hW3]
    have e : (w1.alloc (.cells #[.slice va L vc, .string ⟨#[]⟩, .slice none 0 0, .slice none 0 0] 61)).heap.size = w1.heap.size + 1 := by simp
    rw [e] at h0
    rw [HN.out]
    exact h0.stay ((Below.refl _ _).alloc (Nat.le_refl _) _)
  refine (HREP.out W3 _ (by simp [World.cell?, hlit])).mono ?_
  rintro e w4 ⟨gc, rfl, hgc, hwb, hb4⟩
  obtain ⟨G, hG⟩ : ∃ G, W3.heap.size = G := ⟨_, rfl⟩
  rw [hG] at hwb ⊢
  have HFS : Hid (FS w1.heap.size w4 (w1.heap.size + 1) n (n + 1) (List.replicate (n + 1) (.slice none 0 0)) (List.replicate (n + 1) []) ∧ Below w1.heap.size w1 w4) := ⟨hFS3.stay hb4, go_on hb3 hb4⟩
  have hblk4 : w4.heap[w1.heap.size]? = some (.cells #[.slice va L vc, .string ⟨#[]⟩, .slice none 0 0, .slice none 0 0] 61 (0, 0)) := (hb4.block _ (by omega)).trans hblk3
  have hw00 : List.replicate n (97 : Int) = wd k n 0 := by
    apply wd_ext (by simp)
    intro i hi
    rw [List.getElem?_replicate, if_pos hi]
    simp
  have HWS : Hid (WS w1.heap.size G k n (.slice va L vc) 0 w4) := ⟨⟨_, _, _, [], hblk4, fun s _ => RD.start hblk4 (Nat.le_refl _), by simp⟩, by rw [← hw00]; exact hwb⟩
  have HTR : Hid (t.ok ∧ t.flat = ts ∧ (∀ x ∈ t.flat, good x = true) ∧ t.flat.length ≤ 4000) := by
    obtain ⟨hl4, hfr⟩ := wrong_zero hw0
    refine ⟨ht, hf, ?_, by rw [hf]; exact hl4⟩
    intro x hx
    rw [hf] at hx
    obtain ⟨j, hj, rfl⟩ := List.getElem_of_mem hx
    have := good_all hfr hj
    rw [List.getD_eq_getElem?_getD, List.getElem?_eq_getElem hj] at this
    exact this
  have HTZ : Hid (TzTab w1) := hT.stay B1.out
  have HNR : Hid (∀ W, Below w1.heap.size w1 W → NReads W (.slice va L vc) t.flat) := fun W hb => by rw [hf]; exact (HV.out.stay B1.out).stay hb
  have HPOW : Hid (k ^ n ≤ 1000) := by have := pow_le_sum (k := k) (l := n) (n := n) (Nat.le_refl _); show _ ≤ _; omega
  have HGB : Hid (w1.heap.size ≤ G) := by show _ ≤ _; omega
  have HPOS : Hid (0 < k ^ n) := Nat.pow_pos (by omega)
  clear hb3 hsz3 hlit hblk3 hFS3 hwb hb4 hblk4 hw00 hW3 HREP HTM hmk hwN
  go_wp2_with fail
  go_loopw [12] (fun vf wr => ∃ (f m : Nat) (vs : List Value) (bss : List (List ByteArray)), vf = .int .i64 (f : Int) ∧ FS w1.heap.size wr (w1.heap.size + 1) n (n + 1) vs bss ∧ Below w1.heap.size w1 wr ∧ ((f ≤ n ∧ m < k ^ n ∧ WS w1.heap.size G k n (.slice va L vc) m wr ∧ Fnd t k n bss (cntW k n m f)) ∨ (f = n + 1 ∧ Fnd t k n bss (fun l => k ^ l)))) (fun vf wr => if intOf vf ≤ n then k ^ n + 1 - numG k n G wr else 0)
  case atStart =>
    refine ⟨0, 0, _, _, rfl, HFS.out.1, HFS.out.2, .inl ⟨Nat.zero_le _, HPOS.out, HWS.out, fun l hl => ?_⟩⟩
    rw [rep_getD]
    simp [cntW]
  case round =>
    clear HFS HWS
    obtain ⟨f, m, vs, bss, rfl, hfs, hbel, hcase⟩ := hrel
    have HF : Hid (FS w1.heap.size wr (w1.heap.size + 1) n (n + 1) vs bss) := hfs
    have HB : Hid (Below w1.heap.size w1 wr) := hbel
    clear hfs hbel
    rcases hcase with ⟨hfn, hm, hws, hfnd⟩ | ⟨hfn, hfnd⟩
    · have HW : Hid (WS w1.heap.size G k n (.slice va L vc) m wr) := hws
      have HFN : Hid (Fnd t k n bss (cntW k n m f)) := hfnd
      have HM : Hid (m < k ^ n ∧ f ≤ n) := ⟨hm, hfn⟩
      have hfI : (f : Int) ≤ n := by omega
      have HEQ : Hid (numG k n G wr = m) := numG_eq hk1 hm hws.wb
      obtain ⟨s, hs⟩ : ∃ s, bw (wd k n m) = s := ⟨_, rfl⟩
      have hcv := conv_word hws.wb (fun x hx => by have := wd_byte hk1 hk8 x hx; omega) n gc (by rw [wd_len]; exact Nat.le_refl _)
      rw [List.take_of_length_le (by rw [wd_len]; exact Nat.le_refl _), hs] at hcv
      have HS : Hid (wl s = wd k n m ∧ s.size = n) := by
        rw [← hs]
        exact ⟨wl_bw (fun x hx => by have := wd_byte hk1 hk8 x hx; omega), by rw [bw_size, wd_len]⟩
      obtain ⟨s0, rv, sv, sp, hblk, hrd, hspl⟩ := hws.rd
      have HEND : Hid (Calls Tryd.prog 28 #[.pointer (some ⟨w1.heap.size, 0, none⟩), .string s] wr fun e w' => ∃ M, e = .returned (setV M) ∧ EndsOk (Lg t) (wl s) 0 M ∧ BK w1.heap.size wr w' ∧ (1 ≤ s.size → ∃ rv' sv' sp', RD w1.heap.size w' w1.heap.size (.slice va L vc) s rv' sv' [] sp' ∧ sp'.length ≤ sp.length + t.flat.length + 1)) := by
        refine mendsW_any hblk (hrd s HS.out.2) ?_ (HTZ.out.stay HB.out) (tz_lt HTZ.out) (by rw [HS.out.2]; exact hn) HTR.out.1 HTR.out.2.2.1 HTR.out.2.2.2 (fun w' hb' => HNR.out w' (HB.out.trans hb'))
        have := HPOW.out
        have : m * 4001 ≤ 1000 * 4001 := Nat.mul_le_mul_right _ (by omega)
        omega
      have HSP : Hid (sp.length + t.flat.length + 1 ≤ (m + 1) * 4001) := by
        have := HTR.out.2.2.2
        show _ ≤ _
        rw [Nat.succ_mul]
        omega
      clear hws hfnd hm hs hblk hrd hspl
      go_wp2_with fail
      refine HEND.out.mono ?_
      rintro e w5 ⟨M, rfl, hM, hbk, hrd5⟩
      have HME : Hid (EndsOk (Lg t) (wl s) 0 M) := hM
      obtain ⟨E, hE⟩ : ∃ E, w5.heap.size = E := ⟨_, rfl⟩
      have hb5 : Below w5.heap.size w5 (w5.alloc (.cells #[.int .u64 (word M 0 : Nat), .int .u64 (word M 1 : Nat), .int .u64 (word M 2 : Nat), .int .u64 (word M 3 : Nat), .int .u64 (word M 4 : Nat), .int .u64 (word M 5 : Nat), .int .u64 (word M 6 : Nat), .int .u64 (word M 7 : Nat)] 31)) := (Below.refl _ _).alloc (Nat.le_refl _) _
      have HI : Hid (FS w1.heap.size (w5.alloc (.cells #[.int .u64 (word M 0 : Nat), .int .u64 (word M 1 : Nat), .int .u64 (word M 2 : Nat), .int .u64 (word M 3 : Nat), .int .u64 (word M 4 : Nat), .int .u64 (word M 5 : Nat), .int .u64 (word M 6 : Nat), .int .u64 (word M 7 : Nat)] 31)) (w1.heap.size + 1) n (n + 1) vs bss ∧ Below w1.heap.size w1 (w5.alloc (.cells #[.int .u64 (word M 0 : Nat), .int .u64 (word M 1 : Nat), .int .u64 (word M 2 : Nat), .int .u64 (word M 3 : Nat), .int .u64 (word M 4 : Nat), .int .u64 (word M 5 : Nat), .int .u64 (word M 6 : Nat), .int .u64 (word M 7 : Nat)] 31)) ∧ Cells8 (w5.alloc (.cells #[.int .u64 (word M 0 : Nat), .int .u64 (word M 1 : Nat), .int .u64 (word M 2 : Nat), .int .u64 (word M 3 : Nat), .int .u64 (word M 4 : Nat), .int .u64 (word M 5 : Nat), .int .u64 (word M 6 : Nat), .int .u64 (word M 7 : Nat)] 31)) E (word M) ∧ WBy (w5.alloc (.cells #[.int .u64 (word M 0 : Nat), .int .u64 (word M 1 : Nat), .int .u64 (word M 2 : Nat), .int .u64 (word M 3 : Nat), .int .u64 (word M 4 : Nat), .int .u64 (word M 5 : Nat), .int .u64 (word M 6 : Nat), .int .u64 (word M 7 : Nat)] 31)) G (wd k n m) ∧ (1 ≤ n → ∃ rv sv sp, RD w1.heap.size (w5.alloc (.cells #[.int .u64 (word M 0 : Nat), .int .u64 (word M 1 : Nat), .int .u64 (word M 2 : Nat), .int .u64 (word M 3 : Nat), .int .u64 (word M 4 : Nat), .int .u64 (word M 5 : Nat), .int .u64 (word M 6 : Nat), .int .u64 (word M 7 : Nat)] 31)) w1.heap.size (.slice va L vc) s rv sv [] sp ∧ sp.length ≤ (m + 1) * 4001)) := by
        refine ⟨(HF.out.km hbk.m).stay hb5, (HB.out.trans hbk.b).trans (hb5.mono (HB.out.trans hbk.b).size), by rw [← hE]; exact Cells8.last w5 (word M), (HW.out.wb.km hbk.m).km (KM.of hb5), fun h1 => ?_⟩
        obtain ⟨rv', sv', sp', h2, h3⟩ := hrd5 (by rw [HS.out.2]; exact h1)
        exact ⟨rv', sv', sp', h2.stay hb5, by have := HSP.out; omega⟩
      rw [← hE] at HI
      have HFN2 : Hid (Fnd t k n bss (fun l => if l < f then m / k ^ (n - l) + 1 else cntW k n m f l)) := HFN.out.congr (fun l hl => by
        unfold cntW
        by_cases c : l < f
        · rw [if_pos c, if_pos c]
        · rw [if_neg c, if_neg c])
      clear hM hbk hrd5 hE hb5 HF HB HW HFN HEND HSP hcv
      unfold setV cellsF
      go_wp2_with fail
      go_loopw [14] (fun vl wq => ∃ (l : Nat) (vs : List Value) (bss : List (List ByteArray)), f ≤ l ∧ l ≤ n + 1 ∧ vl = .int .i64 (l : Int) ∧ FS w1.heap.size wq (w1.heap.size + 1) n (n + 1) vs bss ∧ Below w1.heap.size w1 wq ∧ Cells8 wq w5.heap.size (word M) ∧ WBy wq G (wd k n m) ∧ (1 ≤ n → ∃ rv sv sp, RD w1.heap.size wq w1.heap.size (.slice va L vc) s rv sv [] sp ∧ sp.length ≤ (m + 1) * 4001) ∧ Fnd t k n bss (fun l' => if l' < l then m / k ^ (n - l') + 1 else cntW k n m f l')) (fun vl _ => n + 1 - (intOf vl).toNat)
      case atStart => exact ⟨f, vs, bss, Nat.le_refl _, by have := HM.out.2; omega, rfl, HI.out.1, HI.out.2.1, HI.out.2.2.1, HI.out.2.2.2.1, HI.out.2.2.2.2, HFN2.out⟩
      case round =>
        clear HI HFN2
        obtain ⟨l, vs, bss, hfl, hln, rfl, hfs, hbel, hce, hwb, hrd, hfnd⟩ := hrel
        have HF : Hid (FS w1.heap.size wr (w1.heap.size + 1) n (n + 1) vs bss) := hfs
        have HB : Hid (Below w1.heap.size w1 wr) := hbel
        have HC : Hid (Cells8 wr w5.heap.size (word M)) := hce
        have HWB : Hid (WBy wr G (wd k n m)) := hwb
        have HRD : Hid (1 ≤ n → ∃ rv sv sp, RD w1.heap.size wr w1.heap.size (.slice va L vc) s rv sv [] sp ∧ sp.length ≤ (m + 1) * 4001) := hrd
        have HFN : Hid (Fnd t k n bss (fun l' => if l' < l then m / k ^ (n - l') + 1 else cntW k n m f l')) := hfnd
        clear hfs hbel hce hwb hrd hfnd
        by_cases hl : l ≤ n
        · have hlI : (l : Int) ≤ n := by omega
          have HL : Hid (f ≤ l ∧ l ≤ n) := ⟨hfl, hl⟩
          obtain ⟨k0, k1, k2, k3, k4, k5, k6, k7⟩ := HC.out.gets
          have hEl := HC.out.lt
          have HHAS : Hid (∀ W, Calls Tryd.prog 22 #[.agg #[.int .u64 (word M 0 : Nat), .int .u64 (word M 1 : Nat), .int .u64 (word M 2 : Nat), .int .u64 (word M 3 : Nat), .int .u64 (word M 4 : Nat), .int .u64 (word M 5 : Nat), .int .u64 (word M 6 : Nat), .int .u64 (word M 7 : Nat)], .int .i64 (l : Int)] W fun e w' => e = .returned (.bool (memL t (wd k l (m / k ^ (n - l))))) ∧ Below W.heap.size W w') := fun W => by
            have h1 := has_any M l W
            have h2 : hasN M l = memL t (wd k l (m / k ^ (n - l))) := by
              rw [Bool.eq_iff_iff, hasN_end M l (by omega), HME.out l, memL_iff, HS.out.1, wd_len]
              have e : sub (wd k n m) 0 l = wd k l (m / k ^ (n - l)) := by
                unfold sub
                rw [List.drop_zero, Nat.sub_zero, wd_take hl]
              rw [e]
              constructor
              · intro h; exact h.2.2
              · intro h; exact ⟨Nat.zero_le _, hl, h⟩
            rw [h2] at h1
            exact h1
          have hclt : m / k ^ (n - l) < k ^ l := by
            rw [Nat.div_lt_iff_lt_mul (Nat.pow_pos (by omega)), ← Nat.pow_add]
            have : l + (n - l) = n := by omega
            rw [this]
            exact HM.out.1
          have HCN : Hid ((bss.getD l []).map wl = ((allW k l).take (m / k ^ (n - l))).filter (memL t)) := by
            have h1 := HFN.out l hl
            simp only [Nat.lt_irrefl, if_false] at h1
            unfold cntW at h1
            rw [if_neg (by omega)] at h1
            exact h1
          have HFO : Hid (∀ b2 : List ByteArray, b2.map wl = ((allW k l).take (m / k ^ (n - l) + 1)).filter (memL t) → ∀ bss2 : List (List ByteArray), (∀ l', bss2.getD l' [] = if l' = l then b2 else bss.getD l' []) → Fnd t k n bss2 (fun l' => if l' < l + 1 then m / k ^ (n - l') + 1 else cntW k n m f l')) := fun b2 h2 bss2 h3 l' hl' => by
            rw [h3 l']
            by_cases e : l' = l
            · subst e
              rw [if_pos rfl, h2]
              simp
            · rw [if_neg e, HFN.out l' hl']
              by_cases c : l' < l
              · simp [c, Nat.lt_succ_of_lt c]
              · have : ¬ l' < l + 1 := by omega
                simp [c, this]
          have hfilt := filt_next t k l (m / k ^ (n - l)) hclt
          obtain ⟨bit, hbit⟩ : ∃ b, memL t (wd k l (m / k ^ (n - l))) = b := ⟨_, rfl⟩
          rw [hbit] at HHAS hfilt
          go_wp2_with fail
          refine (HHAS.out _).mono ?_
          rintro e w7 ⟨rfl, hb7⟩
          have HF7 : Hid (FS w1.heap.size w7 (w1.heap.size + 1) n (n + 1) vs bss) := HF.out.stay hb7
          have HB7 : Hid (Below w1.heap.size w1 w7) := go_on HB.out hb7
          have HC7 : Hid (Cells8 w7 w5.heap.size (word M)) := HC.out.stay hb7
          have HWB7 : Hid (WBy w7 G (wd k n m)) := HWB.out.km (KM.of hb7)
          have HRD7 : Hid (1 ≤ n → ∃ rv sv sp, RD w1.heap.size w7 w1.heap.size (.slice va L vc) s rv sv [] sp ∧ sp.length ≤ (m + 1) * 4001) := fun h1 => by
            obtain ⟨rv, sv, sp, h2, h3⟩ := HRD.out h1
            exact ⟨rv, sv, sp, h2.stay hb7, h3⟩
          clear hb7 HF HB HC HWB HRD HHAS k0 k1 k2 k3 k4 k5 k6 k7 hEl
          cases bit with
          | false =>
            have HFN3 : Hid (Fnd t k n bss (fun l' => if l' < l + 1 then m / k ^ (n - l') + 1 else cntW k n m f l')) := HFO.out (bss.getD l []) (by rw [hfilt, HCN.out]; simp) bss (fun l' => by
              by_cases e : l' = l
              · rw [if_pos e, e]
              · rw [if_neg e])
            clear hfilt hbit
            go_wp2_with fail
            go_roundw
            case rel => exact ⟨l + 1, vs, bss, by have := HL.out; omega, by have := HL.out; omega, by go_num, HF7.out, HB7.out, HC7.out, HWB7.out, HRD7.out, HFN3.out⟩
            case measure => have := HL.out; simp [intOf]; omega
          | true =>
            have hlN : l < n + 1 := by omega
            have hlNI : (l : Int) < N := by have := HN.out; omega
            obtain ⟨x, hx⟩ : ∃ x, bw ((wd k n m).take l) = x := ⟨_, rfl⟩
            have HX : Hid (wl x = wd k l (m / k ^ (n - l))) := by
              rw [← hx, wd_take hl]
              exact wl_bw (fun y hy => by have := wd_byte hk1 hk8 y hy; omega)
            have hwbD : WBy w7.drew G (wd k n m) := HWB7.out.of_heap rfl
            have hcvD := conv_word hwbD (fun y hy => by have := wd_byte hk1 hk8 y hy; omega) l gc (by rw [wd_len]; exact hl)
            rw [hx] at hcvD
            have hcell := HF7.out.row.cells (g := w1.heap.size + 1) rfl l (vs.getD l (.slice none 0 0)) (by rw [List.getD_eq_getElem?_getD, List.getElem?_eq_getElem (by rw [HF7.out.vlen]; exact hlN)]; rfl)
            rw [Addr.add_lit, Nat.zero_add] at hcell
            have heach := HF7.out.each l hlN
            obtain ⟨ra, rc, hrv⟩ := own_shape heach
            obtain ⟨bl, hbl⟩ : ∃ bl, (bss.getD l []).length = bl := ⟨_, rfl⟩
            have hbl1 : bl ≤ 1000 := by
              have h1 := congrArg List.length HCN.out
              rw [List.length_map, hbl] at h1
              have h2 := List.length_filter_le (memL t) ((allW k l).take (m / k ^ (n - l)))
              rw [List.length_take, allW_len] at h2
              have h3 := pow_le_sum (k := k) (l := l) (n := n) hl
              omega
            rw [hbl] at hrv heach
            rw [hrv] at hcell heach
            have HEA : Hid (w7.ownsRow w1.heap.size 9 1 (.slice ra bl rc) bl ((bss.getD l []).map Value.string)) := heach
            have HRV : Hid (vs.getD l (.slice none 0 0) = .slice ra bl rc ∧ (bss.getD l []).length = bl) := ⟨hrv, hbl⟩
            have hFl := (HF7.out.row.lt (w1.heap.size + 1) rfl).2
            have hGl := HWB7.out.lt
            have hb1 := HB7.out.size
            have hlgc : (l : Int) ≤ gc := by omega
            obtain ⟨i0, hi0, hz0, hz1, hz2⟩ := info_parts Tryd.info_str9
            have HNX : Hid (∀ bs2 : List ByteArray, bs2 = bss.getD l [] ++ [x] → bs2.map wl = ((allW k l).take (m / k ^ (n - l) + 1)).filter (memL t)) := fun bs2 h => by
              rw [h, List.map_append, HCN.out, hfilt]
              simp [HX.out]
            obtain ⟨curF, hcF⟩ := own_type HF7.out.row (w1.heap.size + 1) rfl
            have HBK : Hid (∀ w9, (w7.alloc (.cells #[.string x] 9)).drew.grownBy w9 (Value.slice ra bl rc).ownBlock → w9.heap[w1.heap.size + 1]? = w7.heap[w1.heap.size + 1]?) := fun w9 hg => by
              rw [hg.block (w1.heap.size + 1) (by show _ < (w7.alloc _).heap.size; simp; omega) (fun e => by
                obtain ⟨cur, hc⟩ := own_type HEA.out (w1.heap.size + 1) e.symm
                rw [hcF] at hc
                simp at hc)]
              exact Below.heap_alloc _ _ _ hFl
            have HNEW : Hid (∀ j u, [Value.string x][j]? = some u → (w7.alloc (.cells #[.string x] 9)).drew.cell? ((⟨w7.heap.size, 0, none⟩ : Addr).add j) = some u) := by
              have := cell_one_new w7 (.string x) 9
              exact this
            have hbs : w1.heap.size ≤ (w7.alloc (.cells #[.string x] 9)).drew.heap.size := by show _ ≤ (w7.alloc _).heap.size; simp; omega
            have HCF : Hid (w7.heap[w1.heap.size + 1]? = some (.cells curF 42 (0, 0)) ∧ w7.cell? ⟨w1.heap.size + 1, l, none⟩ = some (.slice ra bl rc)) := ⟨hcF, hcell⟩
            have HPU : Hid (∀ (g9 c9 : Nat) (w9 : World), w9.ownsRow w1.heap.size 9 1 (.slice (some ⟨g9, 0, none⟩) (bl + 1) c9) (bl + 1) ((bss.getD l []).map Value.string ++ [.string x]) → (w7.alloc (.cells #[.string x] 9)).drew.grownBy w9 (Value.slice ra bl rc).ownBlock → ((Value.slice ra bl rc).ownBlock = some g9 ∨ g9 = (w7.alloc (.cells #[.string x] 9)).drew.heap.size) →
                FS w1.heap.size (w9.setCell ⟨w1.heap.size + 1, l, none⟩ (.slice (some ⟨g9, 0, none⟩) (bl + 1) c9)) (w1.heap.size + 1) n (n + 1) (vs.set l (.slice (some ⟨g9, 0, none⟩) (bl + 1) c9)) (bss.set l (bss.getD l [] ++ [x])) ∧ (∀ (k : Nat) (A : Array Value) (ty : TypeId) (fr : Nat × Nat), ty ≠ 9 → ty ≠ 42 → w7.heap[k]? = some (Obj.cells A ty fr) → (w9.setCell ⟨w1.heap.size + 1, l, none⟩ (.slice (some ⟨g9, 0, none⟩) (bl + 1) c9)).heap[k]? = some (Obj.cells A ty fr)) ∧ Below w1.heap.size w7 (w9.setCell ⟨w1.heap.size + 1, l, none⟩ (.slice (some ⟨g9, 0, none⟩) (bl + 1) c9))) := fun g9 c9 w9 ho hg hp => by
              have h1 := HRV.out.1
              have h2 := HRV.out.2
              have := HF7.out.push (l := l) (s := x) (g' := g9) (c' := c9) (w3 := w9) (O := .cells #[.string x] 9) hlN hb1 (by rw [h2]; exact ho) (by rw [h1]; exact grown_drew hg) (by rw [h1]; rcases hp with hp | hp; exact .inl hp; exact .inr (by rw [hp]; show (w7.alloc _).heap.size = _; simp))
              rw [h2] at this
              exact this
            clear hfilt hbit hx hwbD heach hrv hbl hcF
            go_wp2_with fail
            go_region_law (rw [if_pos (by rfl)]; refine wp_append_lies _ _ _ 42 rfl w1.heap.size 9 i0 (.string ⟨#[]⟩) 1 16 Tryd.underlying42 hi0 hz0 hz1 hz2 rfl (by decide) _ _ _ rfl (own_drew (HEA.out.alloc _)) ⟨w7.heap.size, 0, none⟩ 1 1 [.string x] rfl rfl HNEW.out (by intro u hu; simp at hu; subst hu; rfl) (by decide) (by unfold maxLen; omega) (by omega) hbs _ rfl ?_; intro g9 c9 w9 ho9 hg9 hp9 _; have d2 : w9.cell? ⟨w1.heap.size + 1, l, none⟩ = some (.slice ra bl rc) := (by have e := HBK.out w9 hg9; simp only [World.cell?, e]; exact HCF.out.2); have f2 : w9.frozen? ⟨w1.heap.size + 1, l, none⟩ = false := (by simp [World.frozen?, HBK.out w9 hg9, HCF.out.1]); have HP9 : Hid _ := HPU.out g9 c9 w9 ho9 hg9 hp9; clear ho9 hg9 hp9)
            all_goals (
              generalize w9.setCell ⟨w1.heap.size + 1, l, none⟩ (.slice (some ⟨g9, 0, none⟩) (bl + 1) c9) = wE at HP9 ⊢
              have HZ : Hid (Below w1.heap.size w1 wE ∧ Cells8 wE w5.heap.size (word M) ∧ WBy wE G (wd k n m) ∧ (1 ≤ n → ∃ rv sv sp, RD w1.heap.size wE w1.heap.size (.slice va L vc) s rv sv [] sp ∧ sp.length ≤ (m + 1) * 4001) ∧ Fnd t k n (bss.set l (bss.getD l [] ++ [x])) (fun l' => if l' < l + 1 then m / k ^ (n - l') + 1 else cntW k n m f l')) := by
                refine ⟨HB7.out.trans HP9.out.2.2, HP9.out.2.1 _ _ _ _ (by decide) (by decide) HC7.out, ?_, fun h1 => ?_, HFO.out _ (HNX.out _ rfl) _ (fun l' => ?_)⟩
                · obtain ⟨LL, e1, e2⟩ := HWB7.out.ex
                  exact ⟨LL, HP9.out.2.1 _ _ _ _ (by decide) (by decide) e1, e2⟩
                · obtain ⟨rv, sv, sp, h2, h3⟩ := HRD7.out h1
                  exact ⟨rv, sv, sp, h2.besideT (fun kk A ty fr ht hh => HP9.out.2.1 kk A ty fr (by rcases ht with rfl | rfl | rfl <;> decide) (by rcases ht with rfl | rfl | rfl <;> decide) hh), h3⟩
                · exact getD_set bss l l' _ _ (by rw [HF7.out.blen]; have := HL.out; omega)
              clear d2 f2 hcell
              go_wp2_with fail
              go_roundw
              case rel => exact ⟨l + 1, _, _, by have := HL.out; omega, by have := HL.out; omega, by go_num, HP9.out.1, HZ.out.1, HZ.out.2.1, HZ.out.2.2.1, HZ.out.2.2.2.1, HZ.out.2.2.2.2⟩
              case measure => have := HL.out; simp [intOf]; omega)
        · obtain rfl : l = n + 1 := by omega
          have hlI : ¬ ((n + 1 : Nat) : Int) ≤ n := by omega
          have HFN3 : Hid (Fnd t k n bss (fun l' => m / k ^ (n - l') + 1)) := HFN.out.congr (fun l' hl' => by
            have : l' < n + 1 := by omega
            simp [this])
          have HAD : Hid (Calls Tryd.prog 36 #[.int .i64 (k : Int), .slice (some ⟨G, 0, none⟩) n gc] wr fun e w' => ∃ f : Nat, e = .returned (.int .i64 (f : Int)) ∧ ((m + 1 < k ^ n ∧ WBy w' G (wd k n (m + 1)) ∧ 1 ≤ f ∧ f ≤ n ∧ (m + 1) % k ^ (n - f) = 0 ∧ (m / k ^ (n - f)) % k + 1 < k) ∨ (m + 1 = k ^ n ∧ f = n + 1)) ∧ OnlyAt G wr w') := advance_any k hk1 hk8 HWB.out hn HM.out.1
          have HGT : Hid (∃ A, wr.heap[G]? = some (.cells A 5 (0, 0))) := by
            obtain ⟨LL, e1, _⟩ := HWB.out.ex
            exact ⟨_, e1⟩
          have HNG : Hid (f ≤ n ∧ m < k ^ n) := ⟨HM.out.2, HM.out.1⟩
          clear HFN
          go_wp2_with fail
          refine HAD.out.mono ?_
          rintro e w8 ⟨f', rfl, hcase, hon⟩
          have hoth : ∀ (kk : Nat) (A : Array Value) (ty : TypeId) (fr : Nat × Nat), ty ≠ 5 → wr.heap[kk]? = some (Obj.cells A ty fr) → w8.heap[kk]? = some (Obj.cells A ty fr) := fun kk A ty fr ht hh => by
            rw [hon.other kk (fun e => by
              obtain ⟨A', hA'⟩ := HGT.out
              rw [e, hA'] at hh
              simp at hh
              exact ht hh.2.1.symm)]
            exact hh
          have HFS8 : Hid (FS w1.heap.size w8 (w1.heap.size + 1) n (n + 1) vs bss) := HF.out.keep (fun kk A ty fr ht hh => hoth kk A ty fr (by rcases ht with rfl | rfl <;> decide) hh)
          have HB8 : Hid (Below w1.heap.size w1 w8) := HB.out.trans (hon.below.mono HGB.out)
          rcases hcase with ⟨h1, h2, h3, h4, h5, h6⟩ | ⟨h1, h2⟩
          · have HWS8 : Hid (WS w1.heap.size G k n (.slice va L vc) (m + 1) w8) := by
              obtain ⟨rv, sv, sp, hr, hsp⟩ := HRD.out (by omega)
              have hr8 := hr.besideT (fun kk A ty fr ht hh => hoth kk A ty fr (by rcases ht with rfl | rfl | rfl <;> decide) hh)
              exact ⟨⟨s, rv, sv, sp, hr8.blk, fun s' hs' => hr8.reword (by rw [hs', HS.out.2]), hsp⟩, h2⟩
            have HFN4 : Hid (Fnd t k n bss (cntW k n (m + 1) f')) := HFN3.out.congr (fun l' hl' => (cnt_next hk1 h4 h5 h6 hl').symm)
            have HQ : Hid (numG k n G w8 = m + 1 ∧ f' ≤ n ∧ m + 1 < k ^ n) := ⟨numG_eq hk1 h1 h2, h4, h1⟩
            clear h1 h2 h3 h4 h5 h6 hoth hon
            go_wp2_with fail
            go_roundw
            case rel => exact ⟨f', m + 1, vs, bss, rfl, HFS8.out, HB8.out, .inl ⟨HQ.out.2.1, HQ.out.2.2, HWS8.out, HFN4.out⟩⟩
            case measure =>
              have e1 := HQ.out
              have e2 := HNG.out
              have a1 : intOf (Value.int .i64 (f' : Int)) ≤ (n : Int) := by show (f' : Int) ≤ n; omega
              have a2 : intOf (Value.int .i64 (f : Int)) ≤ (n : Int) := by show (f : Int) ≤ n; omega
              rw [if_pos a1, if_pos a2, e1.1, HEQ.out]
              omega
          · have HFN4 : Hid (Fnd t k n bss (fun l' => k ^ l')) := HFN3.out.congr (fun l' hl' => cnt_last hk1 h1 hl')
            have HQ : Hid (f' = n + 1) := h2
            clear h1 h2 hoth hon
            go_wp2_with fail
            go_roundw
            case rel => exact ⟨f', m, vs, bss, rfl, HFS8.out, HB8.out, .inr ⟨HQ.out, HFN4.out⟩⟩
            case measure =>
              have e1 := HQ.out
              have e2 := HNG.out
              have a1 : ¬ intOf (Value.int .i64 (f' : Int)) ≤ (n : Int) := by show ¬ (f' : Int) ≤ n; omega
              have a2 : intOf (Value.int .i64 (f : Int)) ≤ (n : Int) := by show (f : Int) ≤ n; omega
              rw [if_neg a1, if_pos a2, HEQ.out]
              omega
    · subst hfn
      have hfI : ¬ ((n + 1 : Nat) : Int) ≤ n := by omega
      have hcat : Calls Tryd.prog 37 #[.slice (some ⟨w1.heap.size + 1, 0, none⟩) N N] wr fun e w' => ∃ bs, (∃ u, e = .returned u ∧ SReads w' u bs) ∧ bs.map wl = ansW t k n ∧ Below wr.heap.size wr w' := cat_found HF.out hn hs hfnd HN.out
      have HCAT : Hid (Calls Tryd.prog 37 #[.slice (some ⟨w1.heap.size + 1, 0, none⟩) N N] wr fun e w' => ∃ bs, (∃ u, e = .returned u ∧ SReads w' u bs) ∧ bs.map wl = ansW t k n ∧ Below wr.heap.size wr w') := hcat
      clear hcat hfnd
      go_wp2_with fail
      refine HCAT.out.mono ?_
      rintro e w6 ⟨bs, ⟨u, rfl, hsr⟩, hans, hb6⟩
      have HEND : Hid (SReads w6 u bs ∧ bs.map wl = ansW t k n ∧ Below w.heap.size w w6) := ⟨hsr, hans, go_on B1.out (go_on HB.out hb6)⟩
      clear hsr hans hb6
      go_wp2_with fail
      go_ret2
      exact ⟨u, bs, rfl, HEND.out⟩
end Go.Proofs.YtfdkkiecibdblaaDoor
