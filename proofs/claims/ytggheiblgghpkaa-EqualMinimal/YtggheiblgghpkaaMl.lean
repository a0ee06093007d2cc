/- minim: inOrder. -/
import Derived.Test.YtggheiblgghpkaaMk
import Derived.Deep.RegionHeld3
import Derived.Deep.AppendLies
import Derived.Deep.DeepCutAuto
namespace Go.Proofs.Ytggheiblgghpkaa
open Go Go.RowKit Go.Lib
set_option linter.unusedVariables false

/-- The automaton of the classes that are met from 0, and their numbers. -/
def ioA (A : Aut) (l : List Nat) : Aut := match bfs (dC A l) A.k.toNat 0 with
  | some (m, n) => ⟨A.k, n.map fun (x : Nat) => (x : Int), m.map (aN A)⟩
  | none => zAut
def ioM (A : Aut) (l : List Nat) : List Nat := match bfs (dC A l) A.k.toNat 0 with
  | some (m, _) => m
  | none => []

set_option maxHeartbeats 4000000 in
set_option maxRecDepth 100000 in
theorem inOrder_any (v : Value) (A : Aut) (w : World) (h : AR w v A) (G : Good A) (a : Option Addr) (cap : Nat) (l : List Nat) (hL : SR w a (nC l)) (hn : l.length = A.ac.length) (hl : ∀ s, s < l.length → l.getD s 0 < l.length) :
    Calls Try.prog 50 #[v, .slice a A.ac.length cap] w fun e w' => ∃ v' g, e = .returned (.tuple #[v', .slice (some ⟨g, 0, none⟩) A.ac.length A.ac.length]) ∧ AO w.heap.size w' v' (ioA A l) ∧ w'.ownsRow w.heap.size 3 1 (.slice (some ⟨g, 0, none⟩) A.ac.length A.ac.length) A.ac.length (nmC (ioM A l) A.ac.length) ∧ Below w.heap.size w w' := by
  obtain ⟨an, cn, aa, ca, e, k1, k2⟩ := h.is
  have hn1 := G.n1
  have hn2 := G.n2
  obtain ⟨i0, hi, hz0, hz1, hz2⟩ := info_parts Try.info_int
  obtain ⟨i1, hj, hq0, hq1, hq2⟩ := info_parts Try.info_bool
  have HAR : Hid (∀ w', Below w.heap.size w w' → AR w' v A) := fun w' hb => h.stay hb
  obtain ⟨gl, ol, rfl, hglw, _⟩ := hL.nat (i := 0) (by omega)
  obtain ⟨ga, oa, rfl, _, _⟩ := k2.bool (i := 0) (by omega)
  have CL : Hid (∀ y i, Below w.heap.size w y → i < A.ac.length → y.cell? ⟨gl, ol + i, none⟩ = some (.int .i64 (l.getD i 0 : Nat))) := fun y i hy hi => by
    obtain ⟨g', o', e', _, hc'⟩ := (hL.stay hy).nat (i := i) (by omega)
    simp only [Option.some.injEq, Addr.mk.injEq] at e'
    obtain ⟨rfl, rfl, _⟩ := e'
    exact hc'
  have CA : Hid (∀ y i, Below w.heap.size w y → i < A.ac.length → y.cell? ⟨ga, oa + i, none⟩ = some (.bool (A.ac.getD i false))) := fun y i hy hi => by
    obtain ⟨g', o', e', _, hc'⟩ := (k2.stay hy).bool hi
    simp only [Option.some.injEq, Addr.mk.injEq] at e'
    obtain ⟨rfl, rfl, _⟩ := e'
    exact hc'
  have HLL : Hid (∀ s c : Nat, s < A.ac.length → (c : Int) < A.k → dN A s c < A.ac.length ∧ dC A l s c < A.ac.length) := fun s c hs hc => by
    have h1 := (G.at hs hc).2.2
    exact ⟨h1, by unfold dC; have := hl (dN A s c) (by omega); omega⟩
  have HG : Hid (Good A) := G
  obtain ⟨K, hK⟩ : ∃ K : Nat, A.k.toNat = K := ⟨_, rfl⟩
  have HKK : Hid (A.k = (K : Int) ∧ 1 ≤ K ∧ K ≤ 8 ∧ A.k.toNat = K) := ⟨by have := G.kn; omega, by have := G.kn; omega, by have := G.kn; omega, hK⟩
  subst e
  obtain ⟨V, hV⟩ : ∃ V, V = w.alloc (.cells #[.int .i64 A.k, .slice an A.nx.length cn, .slice (some ⟨ga, oa, none⟩) A.ac.length ca] 25) := ⟨_, rfl⟩
  have hVs : V.heap.size = w.heap.size + 1 := by rw [hV]; simp
  have HVS : Hid (V.heap.size = w.heap.size + 1) := hVs
  have HRV : Hid (RowAt V w.heap.size #[.int .i64 A.k, .slice an A.nx.length cn, .slice (some ⟨ga, oa, none⟩) A.ac.length ca]) := by show RowAt _ _ _; rw [hV]; exact RowAt.last _ _ _
  have HBV : Hid (Below w.heap.size w V) := by show Below _ _ _; rw [hV]; exact below_new _ _
  have HVE : Hid (V = w.alloc (.cells #[.int .i64 A.k, .slice an A.nx.length cn, .slice (some ⟨ga, oa, none⟩) A.ac.length ca] 25)) := hV
  clear h hL k1 k2 hl hn G hK hV hVs
  go_enter Try.func50, Try.ntmps50
  go_wp2_with fail
  obtain ⟨U, hU⟩ : ∃ U, U = ((((w.alloc (.cells #[.int .i64 A.k, .slice an A.nx.length cn, .slice (some ⟨ga, oa, none⟩) A.ac.length ca] 25)).alloc (.cells #[.int .i64 0, .slice none 0 0, .slice none 0 0] 25)).alloc (.cells #[.int .i64 A.k, .slice none 0 0, .slice none 0 0] 25)).alloc (.cells #[.int .i64 (-1)] 3)) := ⟨_, rfl⟩
  have hUs : U.heap.size = w.heap.size + 4 := by rw [hU]; simp
  have uV : Below V.heap.size V U := by rw [hU, HVE.out]; exact go_on (go_on (below_new _ _) (below_new _ _)) (below_new _ _)
  have u1 : U.heap[w.heap.size + 1]? = some (.cells #[.int .i64 0, .slice none 0 0, .slice none 0 0] 25 (0, 0)) := by
    rw [hU]
    have := heap_alloc_last (w.alloc (.cells #[.int .i64 A.k, .slice an A.nx.length cn, .slice (some ⟨ga, oa, none⟩) A.ac.length ca] 25)) (.cells #[.int .i64 0, .slice none 0 0, .slice none 0 0] 25)
    rw [World.size_alloc] at this
    exact ((below_new _ _).block _ (by simp)).trans (((below_new _ _).block _ (by simp)).trans this)
  have u2 : U.heap[w.heap.size + 1 + 1]? = some (.cells #[.int .i64 A.k, .slice none 0 0, .slice none 0 0] 25 (0, 0)) := by
    rw [hU]
    have := heap_alloc_last ((w.alloc (.cells #[.int .i64 A.k, .slice an A.nx.length cn, .slice (some ⟨ga, oa, none⟩) A.ac.length ca] 25)).alloc (.cells #[.int .i64 0, .slice none 0 0, .slice none 0 0] 25)) (.cells #[.int .i64 A.k, .slice none 0 0, .slice none 0 0] 25)
    rw [World.size_alloc, World.size_alloc] at this
    exact ((below_new _ _).block _ (by simp)).trans this
  have u3 : U.cell? ⟨w.heap.size + 1 + 1 + 1, 0, none⟩ = some (.int .i64 (-1)) := by
    have := heap_alloc_last (((w.alloc (.cells #[.int .i64 A.k, .slice an A.nx.length cn, .slice (some ⟨ga, oa, none⟩) A.ac.length ca] 25)).alloc (.cells #[.int .i64 0, .slice none 0 0, .slice none 0 0] 25)).alloc (.cells #[.int .i64 A.k, .slice none 0 0, .slice none 0 0] 25)) (.cells #[.int .i64 (-1)] 3)
    rw [World.size_alloc, World.size_alloc, World.size_alloc] at this
    rw [hU, cell_of this]
    rfl
  rw [← hU]
  clear hU
  refine (repeatI_any A.ac.length hn2 hn1 U _ u3).mono ?_
  rintro e w2 ⟨rfl, hrow, hb2⟩
  obtain ⟨gn, hgn⟩ : ∃ gn, U.heap.size = gn := ⟨_, rfl⟩
  have hgs := hb2.size
  rw [hgn] at hrow hgs ⊢
  have hVs := HVS.out
  have hw2 : w.heap.size + 1 + 1 < gn := by omega
  have hgl : gn < w2.heap.size := by
    obtain ⟨cur, hc, _⟩ := own_cur hrow (i := 0) (by omega)
    exact (Array.getElem?_eq_some_iff.1 hc).1
  have hc0 : w2.cell? ⟨gn, 0, none⟩ = some (.int .i64 (-1)) := (hrow.cellAt 0 (by omega)).trans (by rw [List.getElem?_replicate, if_pos (by omega)])
  have hf0 : w2.frozen? ⟨gn, 0, none⟩ = false := hrow.frozenAt 0
  have HM0 : Hid (IM V (w.heap.size + 1) (w.heap.size + 1 + 1) gn A.ac.length A.k (.slice (some ⟨w2.heap.size, 0, none⟩) 1 1) (.slice none 0 0) (.slice none 0 0) (nmC [0] A.ac.length) (nC [0]) [] [] ((w2.setCell ⟨gn, 0, none⟩ (.int .i64 0)).alloc (.cells #[.int .i64 0] 3))) := by
    have s2 : (w2.setCell ⟨gn, 0, none⟩ (.int .i64 0)).heap.size = w2.heap.size := by simp [World.setCell]
    have kk : ∀ b O, b < gn → U.heap[b]? = some O → ((w2.setCell ⟨gn, 0, none⟩ (.int .i64 0)).alloc (.cells #[.int .i64 0] 3)).heap[b]? = some O := fun b O hb hO => by
      rw [(below_new _ _).block _ (by rw [s2]; omega), heap_set_other (by omega), hb2.block _ (by omega)]
      exact hO
    have hst := (hrow.stored 0 (.int .i64 0)).1
    rw [nmC_first (by omega)] at hst
    refine ⟨kk _ _ (by omega) u1, kk _ _ (by omega) u2, (own_mono hst (by omega)).alloc _, ?_, World.ownsRow_nil _ _ _ _, World.ownsRow_nil _ _ _ _, ?_, ?_, ?_, ?_, by omega, by omega, by omega⟩
    · refine ⟨rfl, .inr ⟨w2.heap.size, 1, #[.int .i64 0], rfl, by omega, ?_, Nat.le_refl _, by unfold maxLen; omega, rfl, rfl⟩⟩
      have := heap_alloc_last (w2.setCell ⟨gn, 0, none⟩ (.int .i64 0)) (.cells #[.int .i64 0] 3)
      rw [s2] at this
      exact this
    · simp [Value.ownBlock]; omega
    · simp [Value.ownBlock]
    · intro b _ hb; simp [Value.ownBlock] at hb
    · exact go_on ((go_on uV hb2).setCell (p := ⟨gn, 0, none⟩) (by show V.heap.size ≤ gn; omega) _) (below_new _ _)
  have HP0 : Hid (IP A l K 0 0 [0] [] 32768) := IP.start A l K (by omega)
  have csU := (HRV.out.stay HM0.out.below).cell
  clear hrow hb2 u1 u2 u3 uV hgs hUs hgn hVs
  go_wp2_with fail
  clear csU hc0 hf0
  go_loopw [9, 8] (fun vi vm wr => ∃ (i : Nat) (m n : List Nat) (vn va : Value) (f : Nat), vi = .int .i64 i ∧ i ≤ m.length ∧ IM V (w.heap.size + 1) (w.heap.size + 1 + 1) gn A.ac.length A.k vm vn va (nmC m A.ac.length) (nC m) (nC n) (bC ((m.take i).map (aN A))) wr ∧ IP A l K i 0 m n f) (fun vi _ _ => 4096 - (intOf vi).toNat)
  case atStart => exact ⟨0, [0], [], _, _, 32768, rfl, Nat.zero_le _, HM0.out, HP0.out⟩
  case round =>
    clear HM0 HP0
    obtain ⟨i, m, n, vn, va, f, rfl, him, hM, hP⟩ := hrel
    have hm4 := hP.bi.most
    obtain ⟨am, mc, hvm⟩ := own_shape hM.met
    rw [nC_len] at hvm
    subst hvm
    by_cases hlt : i < m.length
    · have hiI : (i : Int) < m.length := by omega
      have HM : Hid (IM V (w.heap.size + 1) (w.heap.size + 1 + 1) gn A.ac.length A.k (.slice am m.length mc) vn va (nmC m A.ac.length) (nC m) (nC n) (bC ((m.take i).map (aN A))) wr) := hM
      have HP : Hid (IP A l K i 0 m n f) := hP
      have cs := (HRV.out.stay hM.below).cell
      clear hM hP
      go_wp2_with fail
      clear cs
      go_loopw [30, 8] (fun vc vm wr => ∃ (c : Nat) (m n : List Nat) (vn va : Value) (f : Nat), vc = .int .i64 c ∧ c ≤ K ∧ i < m.length ∧ IM V (w.heap.size + 1) (w.heap.size + 1 + 1) gn A.ac.length A.k vm vn va (nmC m A.ac.length) (nC m) (nC n) (bC ((m.take i).map (aN A))) wr ∧ IP A l K i c m n f) (fun vc _ _ => K - (intOf vc).toNat)
      case atStart => exact ⟨0, m, n, vn, va, f, rfl, Nat.zero_le _, hlt, HM.out, HP.out⟩
      case round =>
        clear HM HP hlt hiI him hm4
        obtain ⟨c, m, n, vn, va, f, rfl, hcK, hlt, hM, hP⟩ := hrel
        have hm4 := hP.bi.most
        have hiI : (i : Int) < m.length := by omega
        obtain ⟨s, hs⟩ : ∃ s, m[i]? = some s := ⟨m[i], List.getElem?_eq_getElem hlt⟩
        have hsN := hP.oks s (List.mem_of_getElem? hs)
        obtain ⟨am, mc, hvm⟩ := own_shape hM.met
        rw [nC_len] at hvm
        subst hvm
        have hmet := hM.met
        rw [nC_len] at hmet
        obtain ⟨gm, rfl⟩ : ∃ gm, am = some ⟨gm, 0, none⟩ := by
          rcases hmet.2 with ⟨_, h0⟩ | ⟨g', cap', cur, hv, _⟩
          · omega
          · simp only [Value.slice.injEq] at hv
            exact ⟨g', hv.1⟩
        have hcm : wr.cell? ⟨gm, i, none⟩ = some (.int .i64 (s : Int)) := (hmet.cellAt i (by omega)).trans (by simp [nC, hs])
        have hgm : gm < wr.heap.size := (hmet.lt gm rfl).2
        have HM : Hid (IM V (w.heap.size + 1) (w.heap.size + 1 + 1) gn A.ac.length A.k (.slice (some ⟨gm, 0, none⟩) m.length mc) vn va (nmC m A.ac.length) (nC m) (nC n) (bC ((m.take i).map (aN A))) wr) := hM
        have HP : Hid (IP A l K i c m n f) := hP
        have HS : Hid (m[i]? = some s) := hs
        have hBw : Below w.heap.size w wr := go_on HBV.out hM.below
        have cs := (HRV.out.stay hM.below).cell
        by_cases hc : c < K
        · have hcI : (c : Int) < A.k := by have := HKK.out.1; omega
          have hc8 : c < 8 := by have := HKK.out.2.2.1; omega
          obtain ⟨d1, d2⟩ := HLL.out s c hsN hcI
          obtain ⟨D, hD⟩ : ∃ D, dN A s c = D := ⟨_, rfl⟩
          obtain ⟨t, ht⟩ : ∃ t, dC A l s c = t := ⟨_, rfl⟩
          have hDt : l.getD D 0 = t := by rw [← ht, ← hD]; rfl
          rw [hD] at d1
          rw [ht] at d2
          have HT : Hid (dC A l s c = t) := ht
          have hDI : (D : Int) < A.ac.length := by omega
          have htI : (t : Int) < A.ac.length := by omega
          have hcl := CL.out wr D hBw d1
          rw [hDt] at hcl
          have HST : Hid (∀ y, Below wr.heap.size wr y → Calls Try.prog 66 #[.agg #[.int .i64 A.k, .slice an A.nx.length cn, .slice (some ⟨ga, oa, none⟩) A.ac.length ca], .int .i64 (s : Int), .int .i64 (c : Int)] y fun e w' => e = .returned (.int .i64 (D : Int)) ∧ Below y.heap.size y w') := fun y hy => by rw [← hD]; exact mstep_any _ A y (HAR.out y (go_on hBw hy)) HG.out s c hsN hcI
          have Rw := HRV.out.stay hM.below
          have hglr : gl < wr.heap.size := Nat.lt_of_lt_of_le hglw hBw.size
          have kk : ∀ y1 y2, Below y1.heap.size y1 y2 → ((∀ o, y1.cell? ⟨w.heap.size, o, none⟩ = (#[.int .i64 A.k, .slice an A.nx.length cn, .slice (some ⟨ga, oa, none⟩) A.ac.length ca] : Array Value)[o]?) ∧ y1.cell? ⟨gm, i, none⟩ = some (.int .i64 (s : Int)) ∧ y1.cell? ⟨gl, ol + D, none⟩ = some (.int .i64 (t : Int)) ∧ Below wr.heap.size wr y1) → ((∀ o, y2.cell? ⟨w.heap.size, o, none⟩ = (#[.int .i64 A.k, .slice an A.nx.length cn, .slice (some ⟨ga, oa, none⟩) A.ac.length ca] : Array Value)[o]?) ∧ y2.cell? ⟨gm, i, none⟩ = some (.int .i64 (s : Int)) ∧ y2.cell? ⟨gl, ol + D, none⟩ = some (.int .i64 (t : Int)) ∧ Below wr.heap.size wr y2) := fun y1 y2 hy h => by
            have b := go_on h.2.2.2 hy
            exact ⟨(Rw.stay b).cell, (below_cell b hgm).trans hcm, (below_cell b hglr).trans hcl, b⟩
          have KK : Hid _ := kk
          have S0 : (∀ o, wr.drew.cell? ⟨w.heap.size, o, none⟩ = (#[.int .i64 A.k, .slice an A.nx.length cn, .slice (some ⟨ga, oa, none⟩) A.ac.length ca] : Array Value)[o]?) ∧ wr.drew.cell? ⟨gm, i, none⟩ = some (.int .i64 (s : Int)) ∧ wr.drew.cell? ⟨gl, ol + D, none⟩ = some (.int .i64 (t : Int)) ∧ Below wr.heap.size wr wr.drew := ⟨cs, hcm, hcl, (Below.refl _ _).drew⟩
          clear kk Rw hM hP hs hmet hD ht hDt hcl hcm cs
          go_wp2_with fail
          go_upto_region 11 with fail
          go_cut [11] (fun v11 wz => v11 = .int .i64 (t : Int) ∧ ∃ wx, wx = wz ∧ Below wr.heap.size wr wx)
          case first =>
            go_region_held3 (fun y => (∀ o, y.cell? ⟨w.heap.size, o, none⟩ = (#[.int .i64 A.k, .slice an A.nx.length cn, .slice (some ⟨ga, oa, none⟩) A.ac.length ca] : Array Value)[o]?) ∧ y.cell? ⟨gm, i, none⟩ = some (.int .i64 (s : Int)) ∧ y.cell? ⟨gl, ol + D, none⟩ = some (.int .i64 (t : Int)) ∧ Below wr.heap.size wr y) (first | exact S0 | assumption | exact KK.out _ _ (by assumption) (by assumption)) (first
              | (go_at_call 66; refine (HST.out _ (And.right (And.right (And.right (by assumption))))).mono ?_; rintro e y1 ⟨rfl, hy1⟩))
            all_goals go_wp2_with fail
            all_goals go_meet
            all_goals exact ⟨rfl, _, rfl, by first | exact go_on (Below.refl _ _).drew hy1 | exact (KK.out _ _ hy1 (by assumption)).2.2.2⟩
          case rest =>
            obtain ⟨rfl, wx, hwx, hbx⟩ := hcut
            subst hwx
            have HMX : Hid (IM V (w.heap.size + 1) (w.heap.size + 1 + 1) gn A.ac.length A.k (.slice (some ⟨gm, 0, none⟩) m.length mc) vn va (nmC m A.ac.length) (nC m) (nC n) (bC ((m.take i).map (aN A))) wx) := HM.out.call hbx
            have csx := (HRV.out.stay HMX.out.below).cell
            have hnc : wx.cell? ⟨gn, t, none⟩ = some (.int .i64 (nmI m t)) := (HMX.out.nums.cellAt t (by omega)).trans (nmC_at d2)
            have hncd : wx.drew.cell? ⟨gn, t, none⟩ = some (.int .i64 (nmI m t)) := hnc
            clear S0 hbx
            by_cases htm : t ∈ m
            · have hix := List.idxOf_lt_length_of_mem htm
              have hnm : nmI m t = (m.idxOf t : Int) := by unfold nmI; rw [if_pos htm]
              obtain ⟨p, hp⟩ : ∃ p, m.idxOf t = p := ⟨_, rfl⟩
              rw [hnm, hp] at hnc hncd
              rw [hp] at hix
              have hpn : ¬ (p : Int) = -1 := by omega
              have hpd : decide ((p : Int) = -1) = false := decide_eq_false hpn
              have hnca : ∀ O, (wx.alloc O).drew.cell? ⟨gn, t, none⟩ = some (.int .i64 (p : Int)) := fun O => by have := below_cell (o := t) (below_new wx O) (Array.getElem?_eq_some_iff.1 HMX.out.numBlk.2.choose_spec).1; exact this.trans hnc
              obtain ⟨f', hP'⟩ := HP.out.old hc HKK.out.2.2.1 HS.out (by rw [HT.out]; exact htm)
              rw [HT.out, hp] at hP'
              have HP' : Hid (IP A l K i (c + 1) m (n ++ [p]) f') := hP'
              clear hP' hp hnm
              obtain ⟨nb, ncp, hvn⟩ := own_shape HMX.out.nxt
              rw [nC_len] at hvn
              subst hvn
              have ho1 : wx.drew.cell? ⟨w.heap.size + 1 + 1, 1, none⟩ = some (.slice nb n.length ncp) := cell_of HMX.out.out
              have ho1a : ∀ O, (wx.alloc O).drew.cell? ⟨w.heap.size + 1 + 1, 1, none⟩ = some (.slice nb n.length ncp) := fun O => by have := below_cell (o := 1) (below_new wx O) (Array.getElem?_eq_some_iff.1 HMX.out.out).1; exact this.trans ho1
              have hnb : n.length ≤ 32768 := by have := HP.out.fu; omega
              have HOD : Hid (IM V (w.heap.size + 1) (w.heap.size + 1 + 1) gn A.ac.length A.k (.slice (some ⟨gm, 0, none⟩) m.length mc) (.slice nb n.length ncp) va (nmC m A.ac.length) (nC m) (nC n) (bC ((m.take i).map (aN A))) wx.drew) := HMX.out.call (Below.refl _ _).drew
              have KS : Hid (∀ O, (wx.alloc O).drew.ownsRow V.heap.size 3 1 (.slice nb n.length ncp) n.length (nC n)) := fun O => by have := HMX.out.nxt.alloc O; rw [nC_len] at this; exact this
              have KN : Hid (∀ (j : Nat) (u : Value), [Value.int .i64 (p : Int)][j]? = some u → (wx.alloc (.cells #[.int .i64 (p : Int)] 3)).drew.cell? ((⟨wx.heap.size, 0, none⟩ : Addr).add j) = some u) := cell_one_new wx (.int .i64 (p : Int)) 3
              have hVx : V.heap.size ≤ wx.heap.size := HMX.out.below.size
              go_wp2_with fail
              go_region_law (rw [if_pos (by rfl)]; refine wp_append_lies _ _ _ 22 rfl V.heap.size 3 i0 (.int .i64 0) 1 8 Try.underlying22 hi hz0 hz1 hz2 rfl (by decide) _ _ _ rfl (KS.out _) ⟨wx.heap.size, 0, none⟩ 1 1 [.int .i64 (p : Int)] rfl rfl KN.out (by intro u hu; simp at hu; subst hu; rfl) (by decide) (by unfold maxLen; omega) (by omega) (by simp; omega) (wx.drew.alloc (.cells #[.int .i64 (p : Int)] 3)).heap.size rfl ?_; intro g7 c7 w7 ho7 hg7 hl7 _; have hgr : (wx.drew.alloc (.cells #[.int .i64 (p : Int)] 3)).grownBy w7 _ := hg7; have hM7 := HOD.out.nxtd (x := .int .i64 (p : Int)) hgr (by rw [nC_len]; exact ho7) (by rcases hl7 with q | q; exact .inl q.symm; exact .inr (congrArg some q)); have hcs : w7.cell? ⟨w.heap.size + 1 + 1, 1, none⟩ = some (.slice nb n.length ncp) := cell_of hM7.1; have hfz : w7.frozen? ⟨w.heap.size + 1 + 1, 1, none⟩ = false := froz_of hM7.1; have HM7 : Hid _ := hM7.2; clear hM7 ho7 hg7 hl7 hgr)
              all_goals (
                go_wp2_with fail
                go_roundw
                case rel => exact ⟨c + 1, m, n ++ [p], _, va, f', by go_num, by omega, hlt, by have := HM7.out; rw [show nC n ++ [.int .i64 (p : Int)] = nC (n ++ [p]) by rw [nC_append]; rfl] at this; exact this, HP'.out⟩
                case measure => simp [intOf]; omega)
            · have hnm : nmI m t = -1 := by unfold nmI; rw [if_neg htm]
              rw [hnm] at hnc hncd
              have hfn : wx.frozen? ⟨gn, t, none⟩ = false := HMX.out.nums.frozenAt t
              have HM5 : Hid (IM V (w.heap.size + 1) (w.heap.size + 1 + 1) gn A.ac.length A.k (.slice (some ⟨gm, 0, none⟩) m.length mc) vn va (nmC (m ++ [t]) A.ac.length) (nC m) (nC n) (bC ((m.take i).map (aN A))) (wx.setCell ⟨gn, t, none⟩ (.int .i64 (m.length : Int)))) := by
                have := HMX.out.num t (.int .i64 (m.length : Int))
                rw [nmC_set d2 htm] at this
                exact this
              obtain ⟨f', hP'⟩ := HP.out.new hc HKK.out.2.2.1 hn2 HS.out (by rw [HT.out]; exact htm) (by rw [HT.out]; exact d2)
              rw [HT.out] at hP'
              have HP' : Hid (IP A l K i (c + 1) (m ++ [t]) (n ++ [m.length]) f') := hP'
              have hV5 : V.heap.size ≤ wx.heap.size := HMX.out.below.size
              have KM : Hid (∀ O, ((wx.setCell ⟨gn, t, none⟩ (.int .i64 (m.length : Int))).alloc O).ownsRow V.heap.size 3 1 (.slice (some ⟨gm, 0, none⟩) m.length mc) m.length (nC m)) := fun O => by have := HM5.out.met.alloc O; rw [nC_len] at this; exact this
              clear hP' hnm hncd
              go_wp2_with (at_builtin; refine wpList_append_own_at _ rfl _ _ 22 rfl V.heap.size 3 i0 (.int .i64 0) 1 8 Try.underlying22 hi hz0 hz1 hz2 rfl (by decide) _ _ _ rfl (KM.out _) ⟨wx.heap.size, 0, none⟩ 1 1 [.int .i64 (t : Int)] rfl rfl (by have := cell_one_new (wx.setCell ⟨gn, t, none⟩ (.int .i64 (m.length : Int))) (.int .i64 (t : Int)) 3; simpa [World.setCell] using this) (by intro u hu; simp at hu; subst hu; rfl) (by unfold maxLen; omega) (by omega) (by simp; omega) ?_; intro v6 w6 ho6 hg6 _ hl6; obtain ⟨a6, c6, rfl⟩ := own_shape ho6; have hM6 := HM5.out.metd (x := .int .i64 (t : Int)) hg6 (by rw [nC_len]; exact ho6) hl6; have HM6' : Hid _ := hM6; clear hM6 ho6 hg6 hl6)
              have HM6 : Hid (IM V (w.heap.size + 1) (w.heap.size + 1 + 1) gn A.ac.length A.k (.slice a6 (m.length + 1) c6) vn va (nmC (m ++ [t]) A.ac.length) (nC (m ++ [t])) (nC n) (bC (((m ++ [t]).take i).map (aN A))) w6) := by
                have := HM6'.out
                rw [show nC m ++ [.int .i64 (t : Int)] = nC (m ++ [t]) by rw [nC_append]; rfl, show m.take i = (m ++ [t]).take i from (List.take_append_of_le_length (by omega)).symm] at this
                exact this
              have hnv : nmI (m ++ [t]) t = (m.length : Int) := by unfold nmI; rw [if_pos (by simp), List.idxOf_append, if_neg htm]; simp
              have hnc6 : w6.cell? ⟨gn, t, none⟩ = some (.int .i64 (m.length : Int)) := (HM6.out.nums.cellAt t (by omega)).trans (by rw [nmC_at d2, hnv])
              have hncd : w6.drew.cell? ⟨gn, t, none⟩ = some (.int .i64 (m.length : Int)) := hnc6
              have hnca : ∀ O, (w6.alloc O).drew.cell? ⟨gn, t, none⟩ = some (.int .i64 (m.length : Int)) := fun O => by have := below_cell (o := t) (below_new w6 O) (Array.getElem?_eq_some_iff.1 HM6.out.numBlk.2.choose_spec).1; exact this.trans hnc6
              clear hnc hfn csx
              obtain ⟨nb, ncp, hvn⟩ := own_shape HM6.out.nxt
              rw [nC_len] at hvn
              subst hvn
              have ho1 : w6.drew.cell? ⟨w.heap.size + 1 + 1, 1, none⟩ = some (.slice nb n.length ncp) := cell_of HM6.out.out
              have ho1a : ∀ O, (w6.alloc O).drew.cell? ⟨w.heap.size + 1 + 1, 1, none⟩ = some (.slice nb n.length ncp) := fun O => by have := below_cell (o := 1) (below_new w6 O) (Array.getElem?_eq_some_iff.1 HM6.out.out).1; exact this.trans ho1
              have hnb : n.length ≤ 32768 := by have := HP.out.fu; omega
              have HOD : Hid (IM V (w.heap.size + 1) (w.heap.size + 1 + 1) gn A.ac.length A.k (.slice a6 (m.length + 1) c6) (.slice nb n.length ncp) va (nmC (m ++ [t]) A.ac.length) (nC (m ++ [t])) (nC n) (bC (((m ++ [t]).take i).map (aN A))) w6.drew) := HM6.out.call (Below.refl _ _).drew
              have KS : Hid (∀ O, (w6.alloc O).drew.ownsRow V.heap.size 3 1 (.slice nb n.length ncp) n.length (nC n)) := fun O => by have := HM6.out.nxt.alloc O; rw [nC_len] at this; exact this
              have KN : Hid (∀ (j : Nat) (u : Value), [Value.int .i64 (m.length : Int)][j]? = some u → (w6.alloc (.cells #[.int .i64 (m.length : Int)] 3)).drew.cell? ((⟨w6.heap.size, 0, none⟩ : Addr).add j) = some u) := cell_one_new w6 (.int .i64 (m.length : Int)) 3
              have hVx : V.heap.size ≤ w6.heap.size := HM6.out.below.size
              go_region_law (rw [if_pos (by rfl)]; refine wp_append_lies _ _ _ 22 rfl V.heap.size 3 i0 (.int .i64 0) 1 8 Try.underlying22 hi hz0 hz1 hz2 rfl (by decide) _ _ _ rfl (KS.out _) ⟨w6.heap.size, 0, none⟩ 1 1 [.int .i64 (m.length : Int)] rfl rfl KN.out (by intro u hu; simp at hu; subst hu; rfl) (by decide) (by unfold maxLen; omega) (by omega) (by simp; omega) (w6.drew.alloc (.cells #[.int .i64 (m.length : Int)] 3)).heap.size rfl ?_; intro g7 c7 w7 ho7 hg7 hl7 _; have hgr : (w6.drew.alloc (.cells #[.int .i64 (m.length : Int)] 3)).grownBy w7 _ := hg7; have hM7 := HOD.out.nxtd (x := .int .i64 (m.length : Int)) hgr (by rw [nC_len]; exact ho7) (by rcases hl7 with q | q; exact .inl q.symm; exact .inr (congrArg some q)); have hcs : w7.cell? ⟨w.heap.size + 1 + 1, 1, none⟩ = some (.slice nb n.length ncp) := cell_of hM7.1; have hfz : w7.frozen? ⟨w.heap.size + 1 + 1, 1, none⟩ = false := froz_of hM7.1; have HM7 : Hid _ := hM7.2; clear hM7 ho7 hg7 hl7 hgr)
              all_goals (
                go_wp2_with fail
                go_roundw
                case rel => exact ⟨c + 1, m ++ [t], n ++ [m.length], _, va, f', by go_num, by omega, by simp; omega, by have := HM7.out; rw [show nC n ++ [.int .i64 (m.length : Int)] = nC (n ++ [m.length]) by rw [nC_append]; rfl] at this; exact this, HP'.out⟩
                case measure => simp [intOf]; omega)
        · have hcI : ¬ (c : Int) < A.k := by have := HKK.out.1; omega
          have hcE : c = K := by omega
          obtain ⟨za, zc, hva⟩ := own_shape hM.acp
          have hal : (bC ((m.take i).map (aN A))).length = i := by simp [bC]; omega
          rw [hal] at hva
          subst hva
          have HMA : Hid (IM V (w.heap.size + 1) (w.heap.size + 1 + 1) gn A.ac.length A.k (.slice (some ⟨gm, 0, none⟩) m.length mc) vn (.slice za i zc) (nmC m A.ac.length) (nC m) (nC n) (bC ((m.take i).map (aN A))) wr) := hM
          have ho2 : wr.drew.cell? ⟨w.heap.size + 1 + 1, 2, none⟩ = some (.slice za i zc) := cell_of hM.out
          have ho2a : ∀ O, (wr.alloc O).drew.cell? ⟨w.heap.size + 1 + 1, 2, none⟩ = some (.slice za i zc) := fun O => by have := below_cell (o := 2) (below_new wr O) (Array.getElem?_eq_some_iff.1 hM.out).1; exact this.trans ho2
          have csd : ∀ o, wr.drew.cell? ⟨w.heap.size, o, none⟩ = (#[.int .i64 A.k, .slice an A.nx.length cn, .slice (some ⟨ga, oa, none⟩) A.ac.length ca] : Array Value)[o]? := cs
          have csa : ∀ O o, (wr.alloc O).drew.cell? ⟨w.heap.size, o, none⟩ = (#[.int .i64 A.k, .slice an A.nx.length cn, .slice (some ⟨ga, oa, none⟩) A.ac.length ca] : Array Value)[o]? := fun O o => ((HRV.out.stay hM.below).alloc O).cell o
          have hcmd : wr.drew.cell? ⟨gm, i, none⟩ = some (.int .i64 (s : Int)) := hcm
          have hac := CA.out wr s hBw hsN
          obtain ⟨x, hx⟩ : ∃ x, A.ac.getD s false = x := ⟨_, rfl⟩
          rw [hx] at hac
          have hacd : wr.drew.cell? ⟨ga, oa + s, none⟩ = some (.bool x) := hac
          have hsI : (s : Int) < A.ac.length := by omega
          have hAC : bC ((m.take i).map (aN A)) ++ [.bool x] = bC ((m.take (i + 1)).map (aN A)) := by
            rw [List.take_add_one, hs, List.map_append, bC_append]
            rw [← hx]
            rfl
          have HAC : Hid (bC ((m.take i).map (aN A)) ++ [.bool x] = bC ((m.take (i + 1)).map (aN A))) := hAC
          have HPN : Hid (IP A l K (i + 1) 0 m n f) := by have := HP.out; rw [hcE] at this; exact this.next
          have HAL : Hid ((bC ((m.take i).map (aN A))).length = i) := hal
          have HOD : Hid (IM V (w.heap.size + 1) (w.heap.size + 1 + 1) gn A.ac.length A.k (.slice (some ⟨gm, 0, none⟩) m.length mc) vn (.slice za i zc) (nmC m A.ac.length) (nC m) (nC n) (bC ((m.take i).map (aN A))) wr.drew) := hM.call (Below.refl _ _).drew
          have KS : Hid (∀ O, (wr.alloc O).drew.ownsRow V.heap.size 4 1 (.slice za i zc) i (bC ((m.take i).map (aN A)))) := fun O => by have := hM.acp.alloc O; rw [hal] at this; exact this
          have KN : Hid (∀ (j : Nat) (u : Value), [Value.bool x][j]? = some u → (wr.alloc (.cells #[.bool x] 4)).drew.cell? ((⟨wr.heap.size, 0, none⟩ : Addr).add j) = some u) := cell_one_new wr (.bool x) 4
          have hVx : V.heap.size ≤ wr.heap.size := hM.below.size
          clear hM hP hs hmet hcE hal hx hac hAC
          go_wp2_with fail
          go_region_law (rw [if_pos (by rfl)]; refine wp_append_own _ _ _ 23 rfl V.heap.size 4 i1 (.bool false) 1 1 Try.underlying23 hj hq0 hq1 hq2 rfl (by decide) _ _ _ rfl (KS.out _) ⟨wr.heap.size, 0, none⟩ 1 1 [.bool x] rfl rfl KN.out (by intro u hu; simp at hu; subst hu; rfl) (by unfold maxLen; omega) (by omega) (by simp; omega) ?_; intro v7 w7 ho7 hg7 _; obtain ⟨va7, vc7, rfl⟩ := own_shape ho7; have hgr : (wr.drew.alloc (.cells #[.bool x] 4)).grownBy w7 _ := hg7; have hM7 := HOD.out.acpd (x := .bool x) hgr (by rw [HAL.out]; exact ho7); rw [HAC.out] at hM7; have hcs : w7.cell? ⟨w.heap.size + 1 + 1, 2, none⟩ = some (.slice za i zc) := cell_of hM7.1; have hfz : w7.frozen? ⟨w.heap.size + 1 + 1, 2, none⟩ = false := froz_of hM7.1; have HM7 : Hid _ := hM7.2; clear hM7 ho7 hg7 hgr)
          all_goals (
            go_wp2_with fail
            go_roundw
            case rel => exact ⟨i + 1, m, n, vn, _, f, by go_num, by omega, HM7.out, HPN.out⟩
            case measure => simp [intOf]; omega)
    · have hiI : ¬ (i : Int) < m.length := by omega
      have hiE : i = m.length := by omega
      obtain ⟨nb, ncp, hvn⟩ := own_shape hM.nxt
      rw [nC_len] at hvn
      subst hvn
      obtain ⟨za, zc, hva⟩ := own_shape hM.acp
      have hal : (bC ((m.take i).map (aN A))).length = m.length := by simp [bC]; omega
      rw [hal] at hva
      subst hva
      have hend := hP.go
      have hnl : n.length = m.length * K := by have := hP.nl; rw [hiE] at this; omega
      rw [bgo_end hnl] at hend
      have HI : Hid (ioA A l = ⟨A.k, n.map fun (x : Nat) => (x : Int), m.map (aN A)⟩ ∧ ioM A l = m) := by
        show _ ∧ _
        unfold ioA ioM
        rw [HKK.out.2.2.2, ← hend]
        exact ⟨rfl, rfl⟩
      have hao : AO V.heap.size wr (.agg #[.int .i64 A.k, .slice nb n.length ncp, .slice za m.length zc]) (ioA A l) := by
        rw [HI.out.1]
        have q1 := hM.nxt
        have q2 := hM.acp
        rw [nC_len, nC_zC] at q1
        rw [hal, hiE, List.take_length] at q2
        exact ⟨nb, ncp, za, zc, by simp, by simpa using q1, by simpa using q2⟩
      obtain ⟨f1, f2, f3⟩ := res_done (B := ioA A l) (base := w.heap.size) (w0 := w) hM.res (hao.mono HBV.out.size) (go_on HBV.out hM.below) (by omega)
      have hnm := hM.nums
      have cs := (HRV.out.stay hM.below).cell
      have ho : ∀ o, wr.cell? ⟨w.heap.size + 1 + 1, o, none⟩ = (#[.int .i64 A.k, .slice nb n.length ncp, .slice za m.length zc] : Array Value)[o]? := fun o => cell_of hM.out
      have hr0 : wr.cell? ⟨w.heap.size + 1, 0, none⟩ = some (.int .i64 0) := cell_of hM.res
      have hr1 : wr.cell? ⟨w.heap.size + 1, 1, none⟩ = some (.slice none 0 0) := cell_of hM.res
      have hr2 : wr.cell? ⟨w.heap.size + 1, 2, none⟩ = some (.slice none 0 0) := cell_of hM.res
      have hf : ∀ j, wr.frozen? ⟨w.heap.size + 1, j, none⟩ = false := fun j => froz_of hM.res
      have FN : Hid ((((wr.setCell ⟨w.heap.size + 1, 0, none⟩ (.int .i64 A.k)).setCell ⟨w.heap.size + 1, 1, none⟩ (.slice nb n.length ncp)).setCell ⟨w.heap.size + 1, 2, none⟩ (.slice za m.length zc)).ownsRow w.heap.size 3 1 (.slice (some ⟨gn, 0, none⟩) A.ac.length A.ac.length) A.ac.length (nmC (ioM A l) A.ac.length)) := by
        rw [HI.out.2]
        obtain ⟨_, cur, hgn⟩ := hM.numBlk
        have hne : gn ≠ w.heap.size + 1 := fun e => by have := hM.res; rw [← e, hgn] at this; cases this
        refine own_keep (own_mono hnm HBV.out.size) (fun b cur hb _ => ?_)
        simp only [Value.ownBlock, Option.some.injEq] at hb
        rw [← hb, heap_set_other hne, heap_set_other hne, heap_set_other hne]
      have F1 : Hid _ := f1
      have F2 : Hid _ := f2
      have F3 : Hid _ := f3
      clear f1 f2 f3 hao hnm hM hP hend hnl hal hiE
      go_wp2_with fail
      exact bodyPost_ret (results_auto rfl rfl F1.out rfl) rfl ⟨_, gn, rfl, F2.out, FN.out, F3.out⟩
end Go.Proofs.Ytggheiblgghpkaa
