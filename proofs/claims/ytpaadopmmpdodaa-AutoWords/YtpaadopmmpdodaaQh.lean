/- Contracts of auto.Word and of the document's Word. -/
import Derived.Test.YtpaadopmmpdodaaQg
namespace Go.Proofs.Ytpaadopmmpdodaa
open Go Go.RowKit Go.Lib Go.Maps
set_option linter.unusedVariables false

theorem wrE_bad {k : Int} {b : ByteArray} (h : chk k b ≠ 0) : wrE k b = chk k b ∧ wrA k b = zAut := by
  have e : wrE k b = chk k b := by unfold wrE; rw [if_neg h]
  exact ⟨e, by unfold wrA; rw [if_neg (by rw [e]; exact h)]⟩
theorem wrE_long {k : Int} {b : ByteArray} (h : chk k b = 0) (hb : 4094 < b.size) : wrE k b = 6 ∧ wrA k b = zAut := by
  have e : wrE k b = 6 := by unfold wrE; rw [if_pos h, if_pos hb]
  exact ⟨e, by unfold wrA; rw [if_neg (by rw [e]; decide)]⟩
theorem wrE_ok {k : Int} {b : ByteArray} (h : chk k b = 0) (hb : ¬ 4094 < b.size) : wrE k b = 0 ∧ wrA k b = rch (wAut k.toNat b) 0 (aN (wAut k.toNat b)) := by
  have e : wrE k b = 0 := by unfold wrE; rw [if_pos h, if_neg hb]
  exact ⟨e, by unfold wrA; rw [if_pos e]⟩

set_option maxHeartbeats 4000000 in
set_option maxRecDepth 100000 in
theorem word_any (k : Int) (b : ByteArray) (w : World) (hz : b.size ≤ 9223372036854775807) :
    Calls Try.prog 25 #[.int .i64 k, .string b] w (FQ (wrA k b) (wrE k b) w) := by
  obtain ⟨W, hW⟩ : ∃ W, W = (w.alloc (.cells #[.string b] 9)).alloc (.cells #[.int .i64 0, .slice none 0 0, .slice none 0 0] 25) := ⟨_, rfl⟩
  have HPB : Hid (RowAt W w.heap.size #[.string b]) := by
    show RowAt W w.heap.size _
    rw [hW]
    exact (RowAt.last _ _ _).alloc _
  have HB2 : Hid (Below w.heap.size w W) := by
    show Below w.heap.size w W
    rw [hW]
    exact go_on (below_new _ _) (below_new _ _)
  have HRES : Hid (W.heap[w.heap.size + 1]? = some (.cells #[.int .i64 0, .slice none 0 0, .slice none 0 0] 25 (0, 0))) := by
    show W.heap[w.heap.size + 1]? = _
    rw [hW]
    have := heap_alloc_last (w.alloc (.cells #[.string b] 9)) (.cells #[.int .i64 0, .slice none 0 0, .slice none 0 0] 25)
    simpa using this
  have HWE : Hid (W = (w.alloc (.cells #[.string b] 9)).alloc (.cells #[.int .i64 0, .slice none 0 0, .slice none 0 0] 25)) := hW
  clear hW
  go_enter Try.func25, Try.ntmps25
  go_wp2_with fail
  rw [← HWE.out]
  refine (check_any k b _).mono ?_
  rintro e w1 ⟨rfl, hb1⟩
  have RP1 := HPB.out.stay hb1
  have HP1 : Hid (RowAt w1 w.heap.size #[.string b]) := RP1
  have cs : w1.cell? ⟨w.heap.size, 0, none⟩ = some (.string b) := RP1.cell 0
  have hres1 : w1.heap[w.heap.size + 1]? = some (.cells #[.int .i64 0, .slice none 0 0, .slice none 0 0] 25 (0, 0)) := (hb1.block _ (Array.getElem?_eq_some_iff.1 HRES.out).1).trans HRES.out
  have HB1 : Hid (Below w.heap.size w w1) := go_on HB2.out hb1
  have HR1 : Hid (w1.heap[w.heap.size + 1]? = some (.cells #[.int .i64 0, .slice none 0 0, .slice none 0 0] 25 (0, 0))) := hres1
  have hlt1 : w.heap.size + 1 < w1.heap.size := (Array.getElem?_eq_some_iff.1 hres1).1
  have hr0 : w1.cell? ⟨w.heap.size + 1, 0, none⟩ = some (.int .i64 0) := cell_of hres1
  have hr1 : w1.cell? ⟨w.heap.size + 1, 1, none⟩ = some (.slice none 0 0) := cell_of hres1
  have hr2 : w1.cell? ⟨w.heap.size + 1, 2, none⟩ = some (.slice none 0 0) := cell_of hres1
  have hf : ∀ j, w1.frozen? ⟨w.heap.size + 1, j, none⟩ = false := fun j => froz_of hres1
  obtain ⟨g1, g2, g3⟩ := res_done (B := zAut) (base := w.heap.size) (w0 := w) hres1 (AO.zero _ _) HB1.out (by omega)
  have G1 : Hid _ := g1
  have G2 : Hid _ := g2
  have G3 : Hid _ := g3
  clear hb1 RP1 hres1 g1 g2 g3
  obtain ⟨E, hE⟩ : ∃ E, chk k b = E := ⟨_, rfl⟩
  rw [hE]
  have HE : Hid (chk k b = E) := hE
  clear hE
  by_cases e0 : E = 0
  · subst e0
    by_cases hl : 4094 < b.size
    · have hlI : (4094 : Int) < b.size := by omega
      have HW : Hid (wrE k b = 6 ∧ wrA k b = zAut) := wrE_long HE.out hl
      clear hl
      go_wp2_with fail
      refine bodyPost_ret (results_auto rfl rfl G1.out rfl) rfl ⟨.agg #[.int .i64 0, .slice none 0 0, .slice none 0 0], ?_, ?_, G3.out⟩
      · rw [HW.out.1]; rfl
      · rw [HW.out.2]; exact G2.out
    · have hlI : ¬ (4094 : Int) < b.size := by omega
      have HW : Hid (wrE k b = 0 ∧ wrA k b = rch (wAut k.toNat b) 0 (aN (wAut k.toNat b))) := wrE_ok HE.out hl
      have hk := chk_k HE.out
      obtain ⟨K, hK⟩ : ∃ K : Nat, k = K := ⟨k.toNat, by omega⟩
      subst hK
      rw [Int.toNat_natCast] at HW
      have HL : Hid (Lts K b) := chk_all HE.out
      have hKK : 1 ≤ K ∧ K ≤ 8 := by omega
      have hw1 : IntKind.i64.wrap ((b.size : Int) + 1) = ((b.size + 1 : Nat) : Int) := by rw [IntKind.wrap_i64]; omega
      have HSE : Hid (∀ y, Below w1.heap.size w1 y → y.cell? ⟨w1.heap.size, 0, none⟩ = some (.int .i64 ((b.size + 1 : Nat) : Int)) → w1.heap.size < y.heap.size → Calls Try.prog 48 #[.int .i64 K, .int .i64 0, .func (.func 47) #[] #[.pointer (some ⟨w.heap.size, 0, none⟩), .pointer (some ⟨w1.heap.size, 0, none⟩)], .func (.func 49) #[] #[.pointer (some ⟨w.heap.size, 0, none⟩)]] y (FQ (wrA K b) 0 y)) := fun y hy hq hys => by
        rw [HW.out.2]
        refine (search_int y K 0 47 49 #[.pointer (some ⟨w.heap.size, 0, none⟩), .pointer (some ⟨w1.heap.size, 0, none⟩)] #[.pointer (some ⟨w.heap.size, 0, none⟩)] hKK (fun s => s < b.size + 2) (wD b) (fun s => decide (s = b.size)) (by omega) (fun s c _ _ => wD_lt b s c) (fun s hs => by omega) (fun _ _ => rfl) (fun _ _ => rfl) ?_ ?_).mono ?_
        · intro w' s c hb hs hc
          exact word1_any K b w' w.heap.size w1.heap.size (((HP1.out.stay hy).stay hb).cell 0) (by rw [below_cell hb hys]; exact hq) (by omega) HL.out s c hs hc hKK.2
        · intro w' s hb hs
          exact word2_any b w' w.heap.size (((HP1.out.stay hy).stay hb).cell 0) (by omega) s
        · intro e w' hq
          exact word_fq hKK (by omega) hq
      obtain ⟨n1, hn1⟩ : ∃ n1 : Nat, b.size + 1 = n1 := ⟨_, rfl⟩
      rw [hn1] at hw1 HSE
      have hca : (w1.alloc (.cells #[.int .i64 (n1 : Int)] 3)).cell? ⟨w1.heap.size, 0, none⟩ = some (.int .i64 (n1 : Int)) := (RowAt.last w1 #[.int .i64 (n1 : Int)] 3).cell 0
      have HCA : Hid _ := hca
      clear hl hk HL hKK hn1 hca
      go_wp2_with fail
      refine (HSE.out _ (below_new _ _) HCA.out (by simp)).mono ?_
      rintro e w3 ⟨v', rfl, hao, hb3⟩
      have hb13 : Below w1.heap.size w1 w3 := go_on (below_new _ _) hb3
      have hres3 := (hb13.block _ hlt1).trans HR1.out
      obtain ⟨rn, rcn, ra, rca, rfl, o1, o2⟩ := hao
      obtain ⟨B, hB⟩ : ∃ B, wrA K b = B := ⟨_, rfl⟩
      rw [hB] at o1 o2 ⊢
      have HBE : Hid (wrA K b = B) := hB
      obtain ⟨f1, f2, f3⟩ := res_done (B := B) (base := w.heap.size) (w0 := w) (x0 := .int .i64 B.k) (x1 := .slice rn B.nx.length rcn) (x2 := .slice ra B.ac.length rca) hres3 ⟨rn, rcn, ra, rca, rfl, own_mono o1 (by have := HB1.out.size; simp; omega), own_mono o2 (by have := HB1.out.size; simp; omega)⟩ (go_on HB1.out hb13) (by omega)
      have hq0 : w3.cell? ⟨w.heap.size + 1, 0, none⟩ = some (.int .i64 0) := cell_of hres3
      have hq1 : w3.cell? ⟨w.heap.size + 1, 1, none⟩ = some (.slice none 0 0) := cell_of hres3
      have hq2 : w3.cell? ⟨w.heap.size + 1, 2, none⟩ = some (.slice none 0 0) := cell_of hres3
      have hqf : ∀ j, w3.frozen? ⟨w.heap.size + 1, j, none⟩ = false := fun j => froz_of hres3
      have F1 : Hid _ := f1
      have F2 : Hid _ := f2
      have F3 : Hid _ := f3
      clear o1 o2 hb3 hres3 cs f1 f2 f3 hb13 hB hr0 hr1 hr2 hf
      go_wp2_with fail
      refine bodyPost_ret (results_auto rfl rfl F1.out rfl) rfl ⟨.agg #[.int .i64 B.k, .slice rn B.nx.length rcn, .slice ra B.ac.length rca], ?_, ?_, F3.out⟩
      · rw [HW.out.1]; rfl
      · rw [HBE.out]; exact F2.out
  · have HW : Hid (wrE k b = E ∧ wrA k b = zAut) := by
      have := wrE_bad (k := k) (b := b) (by rw [HE.out]; exact e0)
      rw [HE.out] at this
      exact this
    go_wp2_with fail
    refine bodyPost_ret (results_auto rfl rfl G1.out rfl) rfl ⟨.agg #[.int .i64 0, .slice none 0 0, .slice none 0 0], ?_, ?_, G3.out⟩
    · rw [HW.out.1]; rfl
    · rw [HW.out.2]; exact G2.out

/-- The lists of a word's automaton, as far as they are built. -/
def nxL (b : ByteArray) (K p : Nat) : List Int := (List.range p).map fun p => ((wD b (p / K) (p % K) : Nat) : Int)
def acL (b : ByteArray) (s : Nat) : List Bool := (List.range s).map fun s => decide (s = b.size)
theorem nxL_len (b : ByteArray) (K p : Nat) : (nxL b K p).length = p := by simp [nxL]
theorem acL_len (b : ByteArray) (s : Nat) : (acL b s).length = s := by simp [acL]
theorem nxL_step (b : ByteArray) {K : Nat} (s c : Nat) (hc : c < K) : nxL b K (s * K + c) ++ [((wD b s c : Nat) : Int)] = nxL b K (s * K + c + 1) := by
  have h2 : (s * K + c) / K = s := by rw [Nat.mul_comm, Nat.mul_add_div (by omega), Nat.div_eq_of_lt hc]; rfl
  have h3 : (s * K + c) % K = c := by rw [Nat.mul_comm, Nat.mul_add_mod, Nat.mod_eq_of_lt hc]
  unfold nxL
  rw [List.range_succ, List.map_append]
  simp [h2, h3]
theorem acL_step (b : ByteArray) (s : Nat) : acL b s ++ [decide (s = b.size)] = acL b (s + 1) := by
  unfold acL
  rw [List.range_succ, List.map_append]
  rfl

set_option maxHeartbeats 8000000 in
set_option maxRecDepth 100000 in
theorem rword_any (k : Int) (b : ByteArray) (w : World) (hz : b.size ≤ maxLen) :
    Calls Try.prog 26 #[.int .i64 k, .string b] w (FQ (wrA k b) (wrE k b) w) := by
  have HZ : Hid (b.size ≤ maxLen) := hz
  clear hz
  obtain ⟨i0, hi, hz0, hz1, hz2⟩ := info_parts Try.info_int
  obtain ⟨i1, hj, hq0, hq1, hq2⟩ := info_parts Try.info_bool
  have HRES : Hid ((w.alloc (.cells #[.int .i64 0, .slice none 0 0, .slice none 0 0] 25)).heap[w.heap.size]? = some (.cells #[.int .i64 0, .slice none 0 0, .slice none 0 0] 25 (0, 0))) := heap_alloc_last _ _
  go_enter Try.func26, Try.ntmps26
  go_wp2_with fail
  refine (rcheck_any k b _ HZ.out).mono ?_
  rintro e w1 ⟨rfl, hb1⟩
  have hres1 : w1.heap[w.heap.size]? = some (.cells #[.int .i64 0, .slice none 0 0, .slice none 0 0] 25 (0, 0)) := (hb1.block _ (Array.getElem?_eq_some_iff.1 HRES.out).1).trans HRES.out
  have HB1 : Hid (Below w.heap.size w w1) := go_on (below_new _ _) hb1
  have HR1 : Hid (w1.heap[w.heap.size]? = some (.cells #[.int .i64 0, .slice none 0 0, .slice none 0 0] 25 (0, 0))) := hres1
  have hlt1 : w.heap.size < w1.heap.size := (Array.getElem?_eq_some_iff.1 hres1).1
  have hr0 : w1.cell? ⟨w.heap.size, 0, none⟩ = some (.int .i64 0) := cell_of hres1
  have hr1 : w1.cell? ⟨w.heap.size, 1, none⟩ = some (.slice none 0 0) := cell_of hres1
  have hr2 : w1.cell? ⟨w.heap.size, 2, none⟩ = some (.slice none 0 0) := cell_of hres1
  have hf : ∀ j, w1.frozen? ⟨w.heap.size, j, none⟩ = false := fun j => froz_of hres1
  obtain ⟨g1, g2, g3⟩ := res_done (B := zAut) (base := w.heap.size) (w0 := w) hres1 (AO.zero _ _) HB1.out (by omega)
  have G1 : Hid _ := g1
  have G2 : Hid _ := g2
  have G3 : Hid _ := g3
  clear hb1 hres1 g1 g2 g3
  obtain ⟨E, hE⟩ : ∃ E, chk k b = E := ⟨_, rfl⟩
  rw [hE]
  have HE : Hid (chk k b = E) := hE
  clear hE
  by_cases e0 : E = 0
  · subst e0
    by_cases hl : 4094 < b.size
    · have hlI : (4094 : Int) < b.size := by omega
      have HW : Hid (wrE k b = 6 ∧ wrA k b = zAut) := wrE_long HE.out hl
      clear hl
      go_wp2_with fail
      refine bodyPost_ret (results_auto rfl rfl G1.out rfl) rfl ⟨.agg #[.int .i64 0, .slice none 0 0, .slice none 0 0], ?_, ?_, G3.out⟩
      · rw [HW.out.1]; rfl
      · rw [HW.out.2]; exact G2.out
    · have hlI : ¬ (4094 : Int) < b.size := by omega
      have HW : Hid (wrE k b = 0 ∧ wrA k b = rch (wAut k.toNat b) 0 (aN (wAut k.toNat b))) := wrE_ok HE.out hl
      have hk := chk_k HE.out
      obtain ⟨K, hK⟩ : ∃ K : Nat, k = K := ⟨k.toNat, by omega⟩
      subst hK
      rw [Int.toNat_natCast] at HW
      have HL : Hid (Lts K b) := chk_all HE.out
      have hKK : 1 ≤ K ∧ K ≤ 8 := by omega
      obtain ⟨M, hM⟩ : ∃ M : Nat, b.size + 1 = M := ⟨_, rfl⟩
      obtain ⟨N, hN⟩ : ∃ N : Nat, b.size + 2 = N := ⟨_, rfl⟩
      have hwN : IntKind.i64.wrap ((b.size : Int) + 2) = (N : Int) := by rw [IntKind.wrap_i64]; omega
      have hwM : IntKind.i64.wrap ((N : Int) - 1) = (M : Int) := by rw [IntKind.wrap_i64]; omega
      have HM : Hid (b.size + 1 = M ∧ b.size + 2 = N) := ⟨hM, hN⟩
      have hN4 : N ≤ 4096 := by omega
      have HGA : Hid (reA (wAut K b) = wrA K b ∧ chkA (wAut K b) = 0) := by
        have hg := wAut_good (b := b) hKK (by omega)
        refine ⟨?_, chkA_ok hg⟩
        rw [HW.out.2]
        unfold reA
        rw [if_pos (chkA_ok hg)]
      have HO0 : Hid (BA w w.heap.size w1.heap.size K (nxL b K (0 * K)) (acL b 0) (.slice none 0 0) (.slice none 0 0) (w1.alloc (.cells #[.int .i64 K, .slice none 0 0, .slice none 0 0] 25))) := by
        refine ⟨((below_new _ _).block _ hlt1).trans HR1.out, heap_alloc_last _ _, ?_, World.ownsRow_nil _ _ _ _, go_on HB1.out (below_new _ _), by omega, by omega⟩
        rw [Nat.zero_mul]
        exact World.ownsRow_nil _ _ _ _
      clear hk hM hN hl
      go_wp2_with fail
      go_loopw [9] (fun vs wr => ∃ (s : Nat) (vn va : Value), vs = .int .i64 s ∧ s ≤ N ∧ BA w w.heap.size w1.heap.size K (nxL b K (s * K)) (acL b s) vn va wr) (fun vs _ => N - (intOf vs).toNat)
      case atStart => exact ⟨0, _, _, rfl, Nat.zero_le _, HO0.out⟩
      case round =>
        clear HO0 hr0 hr1 hr2 hf
        obtain ⟨s, vn, va, rfl, hsN, hO⟩ := hrel
        have HOs : Hid (BA w w.heap.size w1.heap.size K (nxL b K (s * K)) (acL b s) vn va wr) := hO
        clear hO
        by_cases hlt : s < N
        · have hltI : (s : Int) < N := by omega
          go_wp2_with fail
          go_loopw [10] (fun vc wr => ∃ (c : Nat) (vn va : Value), vc = .int .i64 c ∧ c ≤ K ∧ BA w w.heap.size w1.heap.size K (nxL b K (s * K + c)) (acL b s) vn va wr) (fun vc _ => K - (intOf vc).toNat)
          case atStart => exact ⟨0, _, _, rfl, Nat.zero_le _, HOs.out⟩
          case round =>
            clear HOs
            obtain ⟨c, vn, va, rfl, hcK, hO⟩ := hrel
            by_cases hc : c < K
            · have hcI : (c : Int) < K := by omega
              obtain ⟨q, hq⟩ : ∃ q, s * K + c = q := ⟨_, rfl⟩
              have hst := nxL_step b s c hc
              have hqb : q ≤ 32768 := by
                have h1 := Nat.mul_le_mul (show s + 1 ≤ 4096 by omega) hKK.2
                rw [Nat.add_mul] at h1
                omega
              rw [hq] at hO hst
              obtain ⟨na, nc, rfl⟩ := own_shape hO.nxt
              have HO : Hid (BA w w.heap.size w1.heap.size K (nxL b K q) (acL b s) (.slice na (nxL b K q).length nc) va wr) := hO
              have ho1 : wr.cell? ⟨w1.heap.size, 1, none⟩ = some (.slice na (nxL b K q).length nc) := cell_of hO.out
              have HQ : Hid (s * K + (c + 1) = q + 1) := by show _ = _; omega
              have HQL : Hid ((nxL b K q).length = q) := nxL_len b K q
              have hqL : (nxL b K q).length ≤ 32768 := by rw [nxL_len]; exact hqb
              clear hO hq
              by_cases hlb : s < b.size
              · have hsI : (s : Int) < b.size := by omega
                obtain ⟨l1, l2⟩ := HL.out s hlb
                obtain ⟨x, hx⟩ : ∃ x, b[s].toNat - 97 = x := ⟨_, rfl⟩
                have hlx := lets_at b s hlb
                rw [hx] at hlx
                have hcv : IntKind.u8.wrap ((b[s].toNat : Int) - 97) = (x : Int) := by rw [IntKind.wrap_u8]; omega
                have hcv2 : IntKind.i64.wrap (x : Int) = (x : Int) := by rw [IntKind.wrap_i64]; omega
                by_cases e : x = c
                · have hwd : wD b s c = s + 1 := by unfold wD; rw [hlx, e, if_pos rfl]
                  obtain ⟨T, hT⟩ : ∃ T : Nat, s + 1 = T := ⟨_, rfl⟩
                  have hw : IntKind.i64.wrap ((s : Int) + 1) = (T : Int) := by rw [IntKind.wrap_i64]; omega
                  rw [hwd, hT] at hst
                  have HST : Hid (nxL b K q ++ [(T : Int)] = nxL b K (q + 1)) := hst
                  subst e
                  clear hlx l1 l2 hx hwd hT hst
                  go_wp2_with (at_builtin; refine wpList_append_own _ rfl _ _ 22 rfl w.heap.size 3 i0 (.int .i64 0) 1 8 Try.underlying22 hi hz0 hz1 hz2 rfl (by decide) _ _ _ rfl (HO.out.nxt.alloc _) ⟨wr.heap.size, 0, none⟩ 1 1 [.int .i64 (T : Int)] rfl rfl (cell_one_new _ _ _) (by intro u hu; simp at hu; subst hu; rfl) (by unfold maxLen; omega) (by omega) (by have := HO.out.below.size; simp; omega) ?_; intro v' w4 hown' hgrow _; obtain ⟨va', vc', rfl⟩ := own_shape hown'; have hout4 := HO.out.outN HO.out.nxt (by decide) hgrow; have hcs : w4.cell? ⟨w1.heap.size, 1, none⟩ = some (.slice na (nxL b K q).length nc) := cell_of hout4; have hfz : w4.frozen? ⟨w1.heap.size, 1, none⟩ = false := froz_of hout4; have hO5 := HO.out.nxtd hgrow hown'; rw [HST.out] at hO5; have HO5 : Hid _ := hO5; clear hO5 hown' hgrow hout4 ho1)
                  go_roundw
                  case rel => exact ⟨x + 1, _, va, by go_num, by omega, by rw [HQ.out]; exact HO5.out⟩
                  case measure => simp [intOf]; omega
                · have hwd : wD b s c = M := by unfold wD; rw [hlx, if_neg (by simpa using e)]; exact HM.out.1
                  have heI : ¬ (x : Int) = c := by omega
                  have hd2 : decide ((x : Int) = c) = false := decide_eq_false heI
                  rw [hwd] at hst
                  have HST : Hid (nxL b K q ++ [(M : Int)] = nxL b K (q + 1)) := hst
                  clear hlx l1 l2 hx hwd hst
                  go_wp2_with (at_builtin; refine wpList_append_own _ rfl _ _ 22 rfl w.heap.size 3 i0 (.int .i64 0) 1 8 Try.underlying22 hi hz0 hz1 hz2 rfl (by decide) _ _ _ rfl (HO.out.nxt.alloc _) ⟨wr.heap.size, 0, none⟩ 1 1 [.int .i64 (M : Int)] rfl rfl (cell_one_new _ _ _) (by intro u hu; simp at hu; subst hu; rfl) (by unfold maxLen; omega) (by omega) (by have := HO.out.below.size; simp; omega) ?_; intro v' w4 hown' hgrow _; obtain ⟨va', vc', rfl⟩ := own_shape hown'; have hout4 := HO.out.outN HO.out.nxt (by decide) hgrow; have hcs : w4.cell? ⟨w1.heap.size, 1, none⟩ = some (.slice na (nxL b K q).length nc) := cell_of hout4; have hfz : w4.frozen? ⟨w1.heap.size, 1, none⟩ = false := froz_of hout4; have hO5 := HO.out.nxtd hgrow hown'; rw [HST.out] at hO5; have HO5 : Hid _ := hO5; clear hO5 hown' hgrow hout4 ho1)
                  go_roundw
                  case rel => exact ⟨c + 1, _, va, by go_num, by omega, by rw [HQ.out]; exact HO5.out⟩
                  case measure => simp [intOf]; omega
              · have hsI : ¬ (s : Int) < b.size := by omega
                have hdI : decide ((s : Int) < b.size) = false := decide_eq_false hsI
                have hwd : wD b s c = M := by
                  unfold wD
                  rw [List.getElem?_eq_none (by rw [lets_len]; omega), if_neg (by simp)]
                  exact HM.out.1
                rw [hwd] at hst
                have HST : Hid (nxL b K q ++ [(M : Int)] = nxL b K (q + 1)) := hst
                clear hwd hst
                go_wp2_with (at_builtin; refine wpList_append_own _ rfl _ _ 22 rfl w.heap.size 3 i0 (.int .i64 0) 1 8 Try.underlying22 hi hz0 hz1 hz2 rfl (by decide) _ _ _ rfl (HO.out.nxt.alloc _) ⟨wr.heap.size, 0, none⟩ 1 1 [.int .i64 (M : Int)] rfl rfl (cell_one_new _ _ _) (by intro u hu; simp at hu; subst hu; rfl) (by unfold maxLen; omega) (by omega) (by have := HO.out.below.size; simp; omega) ?_; intro v' w4 hown' hgrow _; obtain ⟨va', vc', rfl⟩ := own_shape hown'; have hout4 := HO.out.outN HO.out.nxt (by decide) hgrow; have hcs : w4.cell? ⟨w1.heap.size, 1, none⟩ = some (.slice na (nxL b K q).length nc) := cell_of hout4; have hfz : w4.frozen? ⟨w1.heap.size, 1, none⟩ = false := froz_of hout4; have hO5 := HO.out.nxtd hgrow hown'; rw [HST.out] at hO5; have HO5 : Hid _ := hO5; clear hO5 hown' hgrow hout4 ho1)
                go_roundw
                case rel => exact ⟨c + 1, _, va, by go_num, by omega, by rw [HQ.out]; exact HO5.out⟩
                case measure => simp [intOf]; omega
            · have hcI : ¬ (c : Int) < K := by omega
              have hcE : c = K := by omega
              obtain ⟨aa, ac, rfl⟩ := own_shape hO.acp
              have HO : Hid (BA w w.heap.size w1.heap.size K (nxL b K (s * K + c)) (acL b s) vn (.slice aa (acL b s).length ac) wr) := hO
              have ho2 : wr.cell? ⟨w1.heap.size, 2, none⟩ = some (.slice aa (acL b s).length ac) := cell_of hO.out
              have HQ : Hid ((s + 1) * K = s * K + c) := by show _ = _; rw [Nat.add_mul, hcE]; omega
              have hal : (acL b s).length ≤ 4096 := by rw [acL_len]; omega
              clear hO hcE
              by_cases es : s = b.size
              · have HAC : Hid (acL b s ++ [true] = acL b (s + 1)) := by show _ = _; rw [← acL_step, decide_eq_true es]
                have eI : (s : Int) = b.size := by omega
                have hde : ((s : Int) == (b.size : Int)) = true := by simpa using eI
                clear es eI
                go_wp2_with (at_builtin; refine wpList_append_own _ rfl _ _ 23 rfl w.heap.size 4 i1 (.bool false) 1 1 Try.underlying23 hj hq0 hq1 hq2 rfl (by decide) _ _ _ rfl (HO.out.acp.alloc _) ⟨wr.heap.size, 0, none⟩ 1 1 [.bool true] rfl rfl (cell_one_new _ _ _) (by intro u hu; simp at hu; subst hu; rfl) (by unfold maxLen; omega) (by omega) (by have := HO.out.below.size; simp; omega) ?_; intro v' w4 hown' hgrow _; obtain ⟨va', vc', rfl⟩ := own_shape hown'; have hout4 := HO.out.outN HO.out.acp (by decide) hgrow; have hcs : w4.cell? ⟨w1.heap.size, 2, none⟩ = some (.slice aa (acL b s).length ac) := cell_of hout4; have hfz : w4.frozen? ⟨w1.heap.size, 2, none⟩ = false := froz_of hout4; have hO5 := HO.out.acpd hgrow hown'; rw [HAC.out] at hO5; have HO5 : Hid _ := hO5; clear hO5 hown' hgrow hout4 ho2)
                go_roundw
                case rel => exact ⟨s + 1, vn, _, by go_num, by omega, by rw [HQ.out]; exact HO5.out⟩
                case measure => simp [intOf]; omega
              · have HAC : Hid (acL b s ++ [false] = acL b (s + 1)) := by show _ = _; rw [← acL_step, decide_eq_false es]
                have eI : ¬ (s : Int) = b.size := by omega
                have hde : ((s : Int) == (b.size : Int)) = false := by simpa using eI
                clear es eI
                go_wp2_with (at_builtin; refine wpList_append_own _ rfl _ _ 23 rfl w.heap.size 4 i1 (.bool false) 1 1 Try.underlying23 hj hq0 hq1 hq2 rfl (by decide) _ _ _ rfl (HO.out.acp.alloc _) ⟨wr.heap.size, 0, none⟩ 1 1 [.bool false] rfl rfl (cell_one_new _ _ _) (by intro u hu; simp at hu; subst hu; rfl) (by unfold maxLen; omega) (by omega) (by have := HO.out.below.size; simp; omega) ?_; intro v' w4 hown' hgrow _; obtain ⟨va', vc', rfl⟩ := own_shape hown'; have hout4 := HO.out.outN HO.out.acp (by decide) hgrow; have hcs : w4.cell? ⟨w1.heap.size, 2, none⟩ = some (.slice aa (acL b s).length ac) := cell_of hout4; have hfz : w4.frozen? ⟨w1.heap.size, 2, none⟩ = false := froz_of hout4; have hO5 := HO.out.acpd hgrow hown'; rw [HAC.out] at hO5; have HO5 : Hid _ := hO5; clear hO5 hown' hgrow hout4 ho2)
                go_roundw
                case rel => exact ⟨s + 1, vn, _, by go_num, by omega, by rw [HQ.out]; exact HO5.out⟩
                case measure => simp [intOf]; omega
        · have hltI : ¬ (s : Int) < N := by omega
          have hsE : s = N := by omega
          subst hsE
          obtain ⟨na, nc, hvn⟩ := own_shape HOs.out.nxt
          obtain ⟨aa, ac, hva⟩ := own_shape HOs.out.acp
          subst hvn hva
          have ho0 : wr.cell? ⟨w1.heap.size, 0, none⟩ = some (.int .i64 K) := cell_of HOs.out.out
          have ho1 : wr.cell? ⟨w1.heap.size, 1, none⟩ = some (.slice na (nxL b K (s * K)).length nc) := cell_of HOs.out.out
          have ho2 : wr.cell? ⟨w1.heap.size, 2, none⟩ = some (.slice aa (acL b s).length ac) := cell_of HOs.out.out
          have HAU : Hid ((⟨(K : Int), nxL b K (s * K), acL b s⟩ : Aut) = wAut K b) := by
            show _ = _
            rw [← HM.out.2]
            rfl
          have HRE : Hid (Calls Try.prog 20 #[.agg #[.int .i64 K, .slice na (nxL b K (s * K)).length nc, .slice aa (acL b s).length ac]] wr (FQ (wrA K b) 0 wr)) := by
            have h1 := HOs.out.ar
            rw [HAU.out] at h1
            have h2 := rreach_any _ _ _ h1 (by rw [← HAU.out]; simp only [nxL_len]; have := Nat.mul_le_mul hN4 hKK.2; omega) (by rw [← HAU.out]; simp only [acL_len]; omega)
            rw [HGA.out.1, HGA.out.2] at h2
            exact h2
          have HRS : Hid (wr.heap[w.heap.size]? = some (.cells #[.int .i64 0, .slice none 0 0, .slice none 0 0] 25 (0, 0))) := HOs.out.res
          have HBW : Hid (Below w.heap.size w wr) := HOs.out.below
          go_wp2_with fail
          refine HRE.out.mono ?_
          rintro e w3 ⟨v', rfl, hao, hb3⟩
          have hres3 := (hb3.block _ (Array.getElem?_eq_some_iff.1 HRS.out).1).trans HRS.out
          obtain ⟨rn, rcn, ra, rca, rfl, o1, o2⟩ := hao
          obtain ⟨B, hB⟩ : ∃ B, wrA K b = B := ⟨_, rfl⟩
          rw [hB] at o1 o2 ⊢
          have HBE : Hid (wrA K b = B) := hB
          obtain ⟨f1, f2, f3⟩ := res_done (B := B) (base := w.heap.size) (w0 := w) (x0 := .int .i64 B.k) (x1 := .slice rn B.nx.length rcn) (x2 := .slice ra B.ac.length rca) hres3 ⟨rn, rcn, ra, rca, rfl, own_mono o1 HBW.out.size, own_mono o2 HBW.out.size⟩ (go_on HBW.out hb3) (by omega)
          have hp0 : w3.cell? ⟨w.heap.size, 0, none⟩ = some (.int .i64 0) := cell_of hres3
          have hp1 : w3.cell? ⟨w.heap.size, 1, none⟩ = some (.slice none 0 0) := cell_of hres3
          have hp2 : w3.cell? ⟨w.heap.size, 2, none⟩ = some (.slice none 0 0) := cell_of hres3
          have hpf : ∀ j, w3.frozen? ⟨w.heap.size, j, none⟩ = false := fun j => froz_of hres3
          have F1 : Hid _ := f1
          have F2 : Hid _ := f2
          have F3 : Hid _ := f3
          clear o1 o2 hb3 hres3 f1 f2 f3 hB ho0 ho1 ho2
          go_wp2_with fail
          refine bodyPost_ret (results_auto rfl rfl F1.out rfl) rfl ⟨.agg #[.int .i64 B.k, .slice rn B.nx.length rcn, .slice ra B.ac.length rca], ?_, ?_, F3.out⟩
          · rw [HW.out.1]; rfl
          · rw [HBE.out]; exact F2.out
  · have HW : Hid (wrE k b = E ∧ wrA k b = zAut) := by
      have := wrE_bad (k := k) (b := b) (by rw [HE.out]; exact e0)
      rw [HE.out] at this
      exact this
    have hd0 : decide (E = 0) = false := decide_eq_false e0
    go_wp2_with fail
    refine bodyPost_ret (results_auto rfl rfl G1.out rfl) rfl ⟨.agg #[.int .i64 0, .slice none 0 0, .slice none 0 0], ?_, ?_, G3.out⟩
    · rw [HW.out.1]; rfl
    · rw [HW.out.2]; exact G2.out
end Go.Proofs.Ytpaadopmmpdodaa
