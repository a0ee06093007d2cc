/- Contract of auto.Behind. -/
import Derived.Test.YtbfoamidnekoaabQx
namespace Go.Proofs.Ytbfoamidnekoaab
open Go Go.RowKit Go.Lib Go.Maps
set_option linter.unusedVariables false

/-- What stands in memory while the letters are gone through from behind: l those that were. -/
structure BH (w : World) (r : Nat) (B : Aut) (rn : Option Addr) (rcn : Nat) (ra : Option Addr) (rca : Nat) (l : List Nat) (wr : World) : Prop where
  bx : wr.heap[r]? = some (.cells #[.int .i64 B.k, .slice rn B.nx.length rcn, .slice ra B.ac.length rca] 25 (0, 0))
  res : wr.heap[w.heap.size + 1]? = some (.cells #[.int .i64 0, .slice none 0 0, .slice none 0 0] 25 (0, 0))
  nx : wr.ownsRow w.heap.size 3 1 (.slice rn B.nx.length rcn) B.nx.length (zC B.nx)
  ac : wr.ownsRow w.heap.size 4 1 (.slice ra B.ac.length rca) B.ac.length (bC (abv B l))
  below : Below w.heap.size w wr
  lo : w.heap.size + 1 < r
theorem BH.ar {w : World} {r : Nat} {B : Aut} {rn : Option Addr} {rcn : Nat} {ra : Option Addr} {rca : Nat} {l : List Nat} {wr : World} (h : BH w r B rn rcn ra rca l wr) : AR wr (.agg #[.int .i64 B.k, .slice rn B.nx.length rcn, .slice ra B.ac.length rca]) ⟨B.k, B.nx, abv B l⟩ := by
  refine ⟨rn, rcn, ra, rca, ?_, own_sr h.nx, ?_⟩
  · simp only [abv_len]
  · exact own_sr h.ac
theorem BH.next {w : World} {r : Nat} {B : Aut} {rn : Option Addr} {rcn : Nat} {ra : Option Addr} {rca : Nat} {l l' : List Nat} {wr w1 : World} {g cap : Nat} (h : BH w r B rn rcn ra rca l wr) (hb : Below wr.heap.size wr w1)
    (ho : w1.ownsRow wr.heap.size 4 1 (.slice (some ⟨g, 0, none⟩) B.ac.length cap) B.ac.length (bC (abv B l'))) : BH w r B rn rcn (some ⟨g, 0, none⟩) cap l' (w1.setCell ⟨r, 2, none⟩ (.slice (some ⟨g, 0, none⟩) B.ac.length cap)) := by
  have hr := (hb.block _ (Array.getElem?_eq_some_iff.1 h.bx).1).trans h.bx
  have hlo := h.lo
  have so : ∀ (b : Nat) (O : Obj), w1.heap[b]? = some O → (∀ cur : Array Value, O ≠ Obj.cells cur 25 (0, 0)) → (w1.setCell ⟨r, 2, none⟩ (.slice (some ⟨g, 0, none⟩) B.ac.length cap)).heap[b]? = w1.heap[b]? := fun b O hb hne => heap_set_other (fun e => by
    rw [e, hr, Option.some.injEq] at hb
    exact hne _ hb.symm)
  refine ⟨heap_set hr, ?_, own_keep (own_below h.nx hb) (fun b cur _ hc => so b _ hc (fun cur' e => by injection e with _ e _; cases e)), own_keep (own_mono ho h.below.size) (fun b cur _ hc => so b _ hc (fun cur' e => by injection e with _ e _; cases e)), (go_on h.below hb).setCell (p := ⟨r, 2, none⟩) (by show w.heap.size ≤ r; omega) _, hlo⟩
  rw [heap_set_other (by omega)]
  exact (hb.block _ (Array.getElem?_eq_some_iff.1 h.res).1).trans h.res

set_option maxHeartbeats 4000000 in
set_option maxRecDepth 100000 in
theorem behind_any (v : Value) (A : Aut) (w : World) (h : AR w v A) (hm : A.nx.length ≤ 9223372036854775806) (hm2 : A.ac.length ≤ 9223372036854775806) (b : ByteArray) (hz : b.size ≤ 9223372036854775807) :
    Calls Try.prog 8 #[v, .string b] w (FQ (bhA A b) (cwE A b) w) := by
  obtain ⟨an, cn, aa, ca, e, h1, h2⟩ := h.is
  have HAR : Hid (∀ w', Below w.heap.size w w' → AR w' v A) := fun w' hb => h.stay hb
  clear h h1 h2
  subst e
  obtain ⟨arr, harr⟩ : ∃ arr : Array Value, arr = #[.int .i64 A.k, .slice an A.nx.length cn, .slice aa A.ac.length ca] := ⟨_, rfl⟩
  obtain ⟨W, hW⟩ : ∃ W, W = (w.alloc (.cells arr 25)).alloc (.cells #[.int .i64 0, .slice none 0 0, .slice none 0 0] 25) := ⟨_, rfl⟩
  have HR2 : Hid (RowAt W w.heap.size arr) := by
    show RowAt W w.heap.size arr
    rw [hW]
    exact (RowAt.last _ _ _).alloc _
  have HB2 : Hid (Below w.heap.size w W) := by
    show Below w.heap.size w W
    rw [hW]
    exact go_on (below_new _ _) (below_new _ _)
  have HRES : Hid (W.heap[w.heap.size + 1]? = some (.cells #[.int .i64 0, .slice none 0 0, .slice none 0 0] 25 (0, 0))) := by
    show W.heap[w.heap.size + 1]? = _
    rw [hW]
    have := heap_alloc_last (w.alloc (.cells arr 25)) (.cells #[.int .i64 0, .slice none 0 0, .slice none 0 0] 25)
    simpa using this
  have HWE : Hid (W = (w.alloc (.cells arr 25)).alloc (.cells #[.int .i64 0, .slice none 0 0, .slice none 0 0] 25)) := hW
  clear hW
  subst harr
  go_enter Try.func8, Try.ntmps8
  go_wp2_with fail
  rw [← HWE.out]
  refine (checkWord_any _ A _ (HAR.out _ HB2.out) hm hm2 b).mono ?_
  rintro e w1 ⟨rfl, hb1⟩
  have R1 := HR2.out.stay hb1
  have cs := R1.cell
  have hres1 : w1.heap[w.heap.size + 1]? = some (.cells #[.int .i64 0, .slice none 0 0, .slice none 0 0] 25 (0, 0)) := (hb1.block _ (Array.getElem?_eq_some_iff.1 HRES.out).1).trans HRES.out
  have HB1 : Hid (Below w.heap.size w w1) := go_on HB2.out hb1
  have HR1 : Hid (w1.heap[w.heap.size + 1]? = some (.cells #[.int .i64 0, .slice none 0 0, .slice none 0 0] 25 (0, 0))) := hres1
  have hlt1 : w.heap.size + 1 < w1.heap.size := (Array.getElem?_eq_some_iff.1 hres1).1
  clear hb1
  obtain ⟨E, hE⟩ : ∃ E, cwE A b = E := ⟨_, rfl⟩
  rw [hE]
  have HE : Hid (cwE A b = E) := hE
  clear hE
  by_cases e0 : E = 0
  · subst e0
    obtain ⟨G, L⟩ := cwE_good HE.out
    obtain ⟨B, hB⟩ : ∃ B, reA A = B := ⟨_, rfl⟩
    have HGB : Hid (Good B) := by show Good B; rw [← hB]; exact (good_re G).2.2.1
    have HKB : Hid (B.k = A.k) := by
      show B.k = A.k
      rw [← hB]
      obtain ⟨M, N, _, _, e⟩ := rch_oA G (show 0 < A.ac.length from G.n1) (aN A)
      unfold reA
      rw [if_pos (chkA_ok G), e, oA_k, G.kn.2.2]
    have HBH : Hid ((⟨B.k, B.nx, abv B (lets b)⟩ : Aut) = bhA A b) := by rw [← hB]; exact bh_abv G HE.out
    have HL : Hid (Lts A.k b) := L
    have HRE : Hid (Calls Try.prog 14 #[.agg #[.int .i64 A.k, .slice an A.nx.length cn, .slice aa A.ac.length ca]] w1 (FQ B 0 w1)) := by
      have := reach_any _ A w1 (HAR.out _ HB1.out) hm hm2
      rwa [chkA_ok G, hB] at this
    clear G L hB hres1
    go_wp2_with fail
    refine HRE.out.mono ?_
    rintro e w3 ⟨v', rfl, hao, hb3⟩
    have hres3 := (hb3.block _ hlt1).trans HR1.out
    obtain ⟨rn, rcn, ra, rca, rfl, o1, o2⟩ := hao
    have hsz := HB1.out.size
    have hsz3 := hb3.size
    have HL0 : Hid (BH w w3.heap.size B rn rcn ra rca ((lets b).drop b.size) (w3.alloc (.cells #[.int .i64 B.k, .slice rn B.nx.length rcn, .slice ra B.ac.length rca] 25))) := by
      refine ⟨heap_alloc_last _ _, ?_, own_mono (o1.alloc _) hsz, ?_, go_on (go_on HB1.out hb3) (below_new _ _), by omega⟩
      · rw [(below_new _ _).block _ (Array.getElem?_eq_some_iff.1 hres3).1]; exact hres3
      · rw [List.drop_eq_nil_of_le (by rw [lets_len]; omega), abv_nil]; exact own_mono (o2.alloc _) hsz
    clear o1 o2 hb3 hres3 hsz hsz3 HRE cs
    have hbs : IntKind.i64.wrap ((b.size : Int) - 1) = (b.size : Int) - 1 := by rw [IntKind.wrap_i64]; omega
    go_wp2_with fail
    clear hbs
    go_loopw [9] (fun vi wr => ∃ (x : Int) (j : Nat) (ra : Option Addr) (rca : Nat), vi = .int .i64 x ∧ x = (j : Int) - 1 ∧ j ≤ b.size ∧ BH w w3.heap.size B rn rcn ra rca ((lets b).drop j) wr) (fun vi _ => (intOf vi + 1).toNat)
    case atStart => exact ⟨_, b.size, _, _, rfl, rfl, Nat.le_refl _, HL0.out⟩
    case round =>
      clear HL0
      obtain ⟨x, j, sa, sca, rfl, hx, hj, hL⟩ := hrel
      cases j with
      | zero =>
        have hx1 : x = -1 := by omega
        subst hx1
        have e1 : (⟨B.k, B.nx, abv B ((lets b).drop 0)⟩ : Aut) = bhA A b := by rw [List.drop_zero]; exact HBH.out
        obtain ⟨f1, f2, f3⟩ := res_done (B := ⟨B.k, B.nx, abv B ((lets b).drop 0)⟩) (base := w.heap.size) (w0 := w) (x0 := .int .i64 B.k) (x1 := .slice rn B.nx.length rcn) (x2 := .slice sa B.ac.length sca) hL.res ⟨rn, rcn, sa, sca, by simp only [abv_len], hL.nx, by simp only [abv_len]; exact hL.ac⟩ hL.below (by omega)
        rw [e1] at f2
        have cs : ∀ o, wr.cell? ⟨w3.heap.size, o, none⟩ = (#[.int .i64 B.k, .slice rn B.nx.length rcn, .slice sa B.ac.length sca] : Array Value)[o]? := fun o => cell_of hL.bx
        have hr0 : wr.cell? ⟨w.heap.size + 1, 0, none⟩ = some (.int .i64 0) := cell_of hL.res
        have hr1 : wr.cell? ⟨w.heap.size + 1, 1, none⟩ = some (.slice none 0 0) := cell_of hL.res
        have hr2 : wr.cell? ⟨w.heap.size + 1, 2, none⟩ = some (.slice none 0 0) := cell_of hL.res
        have hf : ∀ j, wr.frozen? ⟨w.heap.size + 1, j, none⟩ = false := fun j => froz_of hL.res
        have F1 : Hid _ := f1
        have F2 : Hid _ := f2
        have F3 : Hid _ := f3
        clear f1 f2 f3 hL e1 hx
        go_wp2_with fail
        refine bodyPost_ret (results_auto rfl rfl F1.out rfl) rfl ⟨_, ?_, F2.out, F3.out⟩
        rw [HE.out]
        rfl
      | succ t =>
        have hxt : x = (t : Int) := by omega
        subst hxt
        have htb : t < b.size := by omega
        have htI : (t : Int) < b.size := by omega
        obtain ⟨l1, l2⟩ := HL.out t htb
        obtain ⟨c, hc⟩ : ∃ c, b[t].toNat - 97 = c := ⟨_, rfl⟩
        have hcv : IntKind.u8.wrap ((b[t].toNat : Int) - 97) = (c : Int) := by have := b[t].toNat_lt; rw [IntKind.wrap_u8]; omega
        have hcv2 : IntKind.i64.wrap (c : Int) = (c : Int) := by have := b[t].toNat_lt; rw [IntKind.wrap_i64]; omega
        have hck : (c : Int) < B.k := by rw [HKB.out]; omega
        have hdr : (lets b).drop t = c :: (lets b).drop (t + 1) := by
          have h1 : t < (lets b).length := by rw [lets_len]; exact htb
          rw [List.drop_eq_getElem_cons h1]
          have h2 := lets_at b t htb
          rw [List.getElem?_eq_getElem h1, Option.some.injEq, hc] at h2
          rw [h2]
        have G2 : Good (⟨B.k, B.nx, abv B ((lets b).drop (t + 1))⟩ : Aut) := by
          have G := HGB.out
          exact ⟨G.k1, G.k8, by simp only [abv_len]; exact G.n1, by simp only [abv_len]; exact G.n2, by simp only [abv_len]; exact G.len, G.lo, by simp only [abv_len]; exact G.hi⟩
        have HC : Hid (Calls Try.prog 26 #[.agg #[.int .i64 B.k, .slice rn B.nx.length rcn, .slice sa B.ac.length sca], .int .i64 (c : Int)] wr.drew fun e w' => ∃ g, e = .returned (.slice (some ⟨g, 0, none⟩) B.ac.length B.ac.length) ∧ BH w w3.heap.size B rn rcn (some ⟨g, 0, none⟩) B.ac.length ((lets b).drop t) (w'.setCell ⟨w3.heap.size, 2, none⟩ (.slice (some ⟨g, 0, none⟩) B.ac.length B.ac.length)) ∧ w'.cell? ⟨w3.heap.size, 2, none⟩ = some (.slice sa B.ac.length sca) ∧ w'.frozen? ⟨w3.heap.size, 2, none⟩ = false) := by
          refine (before_any _ _ wr.drew (hL.ar.stay (Below.refl _ _).drew) G2 c hck).mono ?_
          rintro e w' ⟨g, rfl, ho, hb'⟩
          have hb2 : Below wr.heap.size wr w' := go_on (Below.refl _ _).drew hb'
          simp only [abv_len] at ho ⊢
          have q := abv_cons B HGB.out hck ((lets b).drop (t + 1))
          rw [← hdr] at q
          have ho2 : w'.ownsRow wr.heap.size 4 1 (.slice (some ⟨g, 0, none⟩) B.ac.length B.ac.length) B.ac.length (bC (abv B ((lets b).drop t))) := by rw [← q]; exact ho
          have hbx := (hb2.block _ (Array.getElem?_eq_some_iff.1 hL.bx).1).trans hL.bx
          exact ⟨g, rfl, hL.next hb2 ho2, cell_of hbx, froz_of hbx⟩
        have cs : ∀ o, wr.cell? ⟨w3.heap.size, o, none⟩ = (#[.int .i64 B.k, .slice rn B.nx.length rcn, .slice sa B.ac.length sca] : Array Value)[o]? := fun o => cell_of hL.bx
        have csd : ∀ o, wr.drew.cell? ⟨w3.heap.size, o, none⟩ = (#[.int .i64 B.k, .slice rn B.nx.length rcn, .slice sa B.ac.length sca] : Array Value)[o]? := cs
        clear hL hx G2 hdr hck hc l1 l2
        go_wp2_with fail
        go_region_law (rw [if_pos (by rfl)]; go_wp2_with fail; refine HC.out.mono ?_; rintro e w4 ⟨g, rfl, hB4, hc4, hf4⟩; have HB4 : Hid _ := hB4; clear hB4)
        all_goals (
          go_wp2_with fail
          go_roundw
          case rel => exact ⟨_, t, _, _, by go_num, rfl, by omega, HB4.out⟩
          case measure => simp [intOf])
  · have HA0 : Hid (bhA A b = zAut) := by show _ = _; unfold bhA; rw [if_neg (by rw [HE.out]; exact e0)]
    have hr0 : w1.cell? ⟨w.heap.size + 1, 0, none⟩ = some (.int .i64 0) := cell_of hres1
    have hr1 : w1.cell? ⟨w.heap.size + 1, 1, none⟩ = some (.slice none 0 0) := cell_of hres1
    have hr2 : w1.cell? ⟨w.heap.size + 1, 2, none⟩ = some (.slice none 0 0) := cell_of hres1
    have hf : ∀ j, w1.frozen? ⟨w.heap.size + 1, j, none⟩ = false := fun j => froz_of hres1
    obtain ⟨f1, f2, f3⟩ := res_done (B := zAut) (base := w.heap.size) (w0 := w) hres1 (AO.zero _ _) HB1.out (by omega)
    have F1 : Hid _ := f1
    have F2 : Hid _ := f2
    have F3 : Hid _ := f3
    clear hres1 f1 f2 f3
    go_wp2_with fail
    refine bodyPost_ret (results_auto rfl rfl F1.out rfl) rfl ⟨.agg #[.int .i64 0, .slice none 0 0, .slice none 0 0], ?_, ?_, F3.out⟩
    · rw [HE.out]; rfl
    · rw [HA0.out]; exact F2.out
end Go.Proofs.Ytbfoamidnekoaab
