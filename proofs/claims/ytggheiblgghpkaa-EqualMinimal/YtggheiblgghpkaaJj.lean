/- Contract of auto.search[int], whatever the two functions are that tell where letters lead and what is accepted. -/
import Derived.Test.YtggheiblgghpkaaJi
import Derived.Deep.DeepCutAuto
import Derived.Deep.RegionLaw
namespace Go.Proofs.Ytggheiblgghpkaa
open Go Go.RowKit Go.Lib Go.Maps
set_option linter.unusedVariables false

theorem Try.und_mapi : Try.prog.underlying 100 = some (.map 3 3) := by kernel_rfl

theorem Try.info_auto : (Try.prog.info? 25).map (·.size) = some 3 := by kernel_rfl
theorem results_auto {fn : Func} {p u : Tmp} (h : fn.results = #[.cell p 25, .tmp u]) {tmps : Array Value} {b : Nat} {arr : Array Value} {w : World} (hp : tmps.getD p undef = .pointer (some ⟨b, 0, none⟩)) (hc : w.heap[b]? = some (.cells arr 25 (0, 0))) (hs : arr.size = 3) :
    (results fn tmps).run Try.prog w = .ok (.tuple #[.agg arr, tmps.getD u undef]) w := by
  rw [results_cell_tmp h]
  have := run_loadVar_row w b 25 25 arr (0, 0) _ hc Try.underlying25 rfl (by rw [Try.info_auto, hs])
  simp [hp, asAddr, this, Result.andThen]
abbrev ceI (s : Nat) : List Value := [.int .i64 (s : Int)]
abbrev klI (s : Nat) : Lit := .int .i64 (s : Int)
abbrev OI (w : World) (ok : Nat → Prop) (d : Nat → Nat → Nat) (K x : Nat) (acc : Nat → Bool) (i c : Nat) (m n : List Nat) (vm vn va : Value) (D : DataW Unit) (f : Nat) (wr : World) : Prop := OS w 3 1 ceI klI ok d K x acc i c m n vm vn va D f wr
theorem wfN {s : Nat} (h : s ≤ 9223372036854775807) : (Lit.int .i64 (s : Int)).wf = true := WalkArith.wf_i64 (by omega)

theorem flat_ceI (m : List Nat) : m.flatMap ceI = nC m := by
  induction m with
  | nil => rfl
  | cons a m ih => rw [List.flatMap_cons, ih]; rfl
theorem met_cell {w : World} {base : Nat} {a : Option Addr} {c : Nat} {m : List Nat} {i s : Nat} (h : w.ownsRow base 3 1 (.slice a m.length c) m.length (m.flatMap ceI)) (hi : m[i]? = some s) : ∃ g, a = some ⟨g, 0, none⟩ ∧ w.cell? ⟨g, i, none⟩ = some (.int .i64 (s : Int)) := by
  rw [flat_ceI] at h
  have hil := (List.getElem?_eq_some_iff.1 hi).1
  have h2 := h
  rcases h.2 with ⟨h1, h0⟩ | ⟨g, cap, cur, h1, _⟩
  · omega
  · simp only [Value.slice.injEq] at h1
    obtain ⟨rfl, _, rfl⟩ := h1
    refine ⟨g, rfl, ?_⟩
    rw [h2.cellAt i (by omega)]
    simp [nC, hi]
/-- The block out, behind an append to a row. -/
theorem SH.outN {S : Type} {w : World} {tS z : Nat} {ce : S → List Value} {K : Nat} {acc : S → Bool} {m : List S} {n : List Nat} {i : Nat} {vm vn va : Value} {wr w2 : World} {o : Obj} (h : SH w tS z ce K acc m n i vm vn va wr) {v : Value} {e : TypeId} {size k : Nat} {xs : List Value} (hv : wr.ownsRow w.heap.size e size v k xs) (he : e ≠ 25) (hg : (wr.alloc o).grownBy w2 v.ownBlock) :
    w2.heap[w.heap.size + 1]? = some (.cells #[.int .i64 K, vn, va] 25 (0, 0)) := by
  have hbig := h.big
  rw [hg.block _ (by simp; omega) (fun e1 => by
    obtain ⟨_, cur, hc⟩ := own_blk hv e1.symm
    have := h.out
    rw [hc] at this
    injection this with this
    injection this with _ this _
    exact he this), (below_new wr o).block _ (by omega)]
  exact h.out
theorem cell_of {w : World} {b j : Nat} {arr : Array Value} {t : TypeId} (h : w.heap[b]? = some (.cells arr t (0, 0))) : w.cell? ⟨b, j, none⟩ = arr[j]? := by simp [World.cell?, h]
theorem froz_of {w : World} {b j : Nat} {arr : Array Value} {t : TypeId} (h : w.heap[b]? = some (.cells arr t (0, 0))) : w.frozen? ⟨b, j, none⟩ = false := by simp [World.frozen?, h]
theorem oi_start {w w1 : World} {ok : Nat → Prop} {d : Nat → Nat → Nat} {K x : Nat} {acc : Nat → Bool} (hok : ok x)
    (hmo : w1.ownsMap Try.prog 3 (plainElem Try.prog 3) (w.heap.size + 3) 1 ((DataW.map [] : DataW Unit).put (klI x) (.lit (.int .i64 0))))
    (hmg : ((((w.alloc (.cells #[.int .i64 0, .slice none 0 0, .slice none 0 0] 25)).alloc (.cells #[.int .i64 K, .slice none 0 0, .slice none 0 0] 25)).alloc (.cells #[.int .i64 x] 3)).alloc (.map #[] 0)).grownBy w1 (some (w.heap.size + 3)))
    (hinj : ∀ a b, ok a → ok b → klI a = klI b → a = b) :
    OI w ok d K x acc 0 0 [x] [] (.slice (some ⟨w.heap.size + 2, 0, none⟩) 1 1) (.slice none 0 0) (.slice none 0 0) ((DataW.map [] : DataW Unit).put (klI x) (.lit (.int .i64 0))) 32768 w1 := by
  have k : ∀ b, b < w.heap.size + 3 → w1.heap[b]? = ((((w.alloc (.cells #[.int .i64 0, .slice none 0 0, .slice none 0 0] 25)).alloc (.cells #[.int .i64 K, .slice none 0 0, .slice none 0 0] 25)).alloc (.cells #[.int .i64 x] 3)).alloc (.map #[] 0)).heap[b]? := fun b hb => hmg.block b (by simp; omega) (by simp; omega)
  have kb : Below w.heap.size w ((((w.alloc (.cells #[.int .i64 0, .slice none 0 0, .slice none 0 0] 25)).alloc (.cells #[.int .i64 K, .slice none 0 0, .slice none 0 0] 25)).alloc (.cells #[.int .i64 x] 3)).alloc (.map #[] 0)) := ((((Below.refl _ w).alloc (Nat.le_refl _) _).alloc (by simp) _).alloc (by simp; omega) _).alloc (by simp; omega) _
  have e0 : w1.heap[w.heap.size]? = some (.cells #[.int .i64 0, .slice none 0 0, .slice none 0 0] 25 (0, 0)) := by
    rw [k _ (by omega), (below_new _ _).block _ (by simp; omega), (below_new _ _).block _ (by simp; omega), (below_new _ _).block _ (by simp)]
    exact heap_alloc_last _ _
  have e1 : w1.heap[w.heap.size + 1]? = some (.cells #[.int .i64 K, .slice none 0 0, .slice none 0 0] 25 (0, 0)) := by
    rw [k _ (by omega), (below_new _ _).block _ (by simp), (below_new _ _).block _ (by simp)]
    have := heap_alloc_last (w.alloc (.cells #[.int .i64 0, .slice none 0 0, .slice none 0 0] 25)) (.cells #[.int .i64 K, .slice none 0 0, .slice none 0 0] 25)
    simpa using this
  have e2 : w1.heap[w.heap.size + 2]? = some (.cells #[.int .i64 x] 3 (0, 0)) := by
    rw [k _ (by omega), (below_new _ _).block _ (by simp)]
    have := heap_alloc_last ((w.alloc (.cells #[.int .i64 0, .slice none 0 0, .slice none 0 0] 25)).alloc (.cells #[.int .i64 K, .slice none 0 0, .slice none 0 0] 25)) (.cells #[.int .i64 x] 3)
    simpa using this
  refine ⟨⟨e0, e1, map_blk hmo, ?_, World.ownsRow_nil _ _ _ _, World.ownsRow_nil _ _ _ _, ?_, by simp, kb.grown hmg (by simp; omega) (fun b hb => by simp at hb; omega)⟩, hmo, ?_, BI.start d K x, rfl, rfl, by simp, by simpa using hok⟩
  · exact ⟨rfl, .inr ⟨w.heap.size + 2, 1, #[.int .i64 x], rfl, by omega, e2, Nat.le_refl _, by unfold maxLen; omega, rfl, rfl⟩⟩
  · intro b _ h2; simp [Value.ownBlock] at h2
  · have := (MI.empty klI ok).put hinj isMap_empty (t := x) trivial hok (by simp)
    simpa using this

set_option maxHeartbeats 4000000 in
set_option maxRecDepth 100000 in
theorem search_int (w : World) (K x : Nat) (nf af : Nat) (nc ac : Array Value) (hk : 1 ≤ K ∧ K ≤ 8) (ok : Nat → Prop) (d : Nat → Nat → Nat) (acc : Nat → Bool)
    (hokx : ok x) (hokd : ∀ s c, ok s → c < K → ok (d s c)) (hsm : ∀ s, ok s → s ≤ 9223372036854775807)
    (eN : ∀ args w, (callFunc nf args).run Try.prog w = .ok (.enter nf args) w) (eA : ∀ args w, (callFunc af args).run Try.prog w = .ok (.enter af args) w)
    (hN : ∀ w1 s c, Below w.heap.size w w1 → ok s → c < K → Calls Try.prog nf (#[.int .i64 (s : Nat), .int .i64 (c : Nat)] ++ nc) w1 fun e w2 => e = .returned (.int .i64 (d s c : Nat)) ∧ Below w1.heap.size w1 w2)
    (hA : ∀ w1 s, Below w.heap.size w w1 → ok s → Calls Try.prog af (#[.int .i64 (s : Nat)] ++ ac) w1 fun e w2 => e = .returned (.bool (acc s)) ∧ Below w1.heap.size w1 w2) :
    Calls Try.prog 63 #[.int .i64 K, .int .i64 x, .func (.func nf) #[] nc, .func (.func af) #[] ac] w (SQ (bfs d K x) K acc w) := by
  have hinj : ∀ a b, ok a → ok b → klI a = klI b → a = b := fun a b _ _ e => by injection e with _ e; exact_mod_cast e
  have hown0 : ((((w.alloc (.cells #[.int .i64 0, .slice none 0 0, .slice none 0 0] 25)).alloc (.cells #[.int .i64 K, .slice none 0 0, .slice none 0 0] 25)).alloc (.cells #[.int .i64 x] 3)).alloc (.map #[] 0)).ownsMap Try.prog 3 (plainElem Try.prog 3) (w.heap.size + 3) 0 (DataW.map [] : DataW Unit) := by
    have := World.ownsMap_made (H := Unit) (((w.alloc (.cells #[.int .i64 0, .slice none 0 0, .slice none 0 0] 25)).alloc (.cells #[.int .i64 K, .slice none 0 0, .slice none 0 0] 25)).alloc (.cells #[.int .i64 x] 3)) Try.prog 3 (plainElem Try.prog 3)
    simpa using this
  obtain ⟨w1, hrun, hown1, hg1⟩ := hown0.update keyI Try.und_mapi (by unfold maxLen; omega) (keyOf_int_mk Try.und_int (wfN (hsm x hokx))) (plainElem_int (a := 0) Try.und_int (by decide))
  have hrun' : (Instr.mapUpdate 100 (.map (some (w.heap.size + 1 + 1 + 1))) (.int .i64 x) (.int .i64 0)).run Try.prog ((((w.alloc (.cells #[.int .i64 0, .slice none 0 0, .slice none 0 0] 25)).alloc (.cells #[.int .i64 K, .slice none 0 0, .slice none 0 0] 25)).alloc (.cells #[.int .i64 x] 3)).alloc (.map #[] 0)) = .ok () w1 := hrun
  have HO : Hid (OI w ok d K x acc 0 0 [x] [] (.slice (some ⟨w.heap.size + 2, 0, none⟩) 1 1) (.slice none 0 0) (.slice none 0 0) ((DataW.map [] : DataW Unit).put (klI x) (.lit (.int .i64 0))) 32768 w1) := oi_start hokx hown1 hg1 hinj
  have HINJ : Hid _ := hinj
  have HN : Hid (∀ w1 s c, Below w.heap.size w w1 → ok s → c < K → Calls Try.prog nf (#[.int .i64 (s : Nat), .int .i64 (c : Nat)] ++ nc) w1 fun e w2 => e = .returned (.int .i64 (d s c : Nat)) ∧ Below w1.heap.size w1 w2) := hN
  have HA : Hid (∀ w1 s, Below w.heap.size w w1 → ok s → Calls Try.prog af (#[.int .i64 (s : Nat)] ++ ac) w1 fun e w2 => e = .returned (.bool (acc s)) ∧ Below w1.heap.size w1 w2) := hA
  have HSM : Hid (∀ s, ok s → s ≤ 9223372036854775807) := hsm
  have HOKD : Hid (∀ s c, ok s → c < K → ok (d s c)) := hokd
  have hmm := @run_makeMap Try.prog
  obtain ⟨i0, hi, hz0, hz1, hz2⟩ := info_parts Try.info_int
  obtain ⟨i1, hj, hy0, hy1, hy2⟩ := info_parts Try.info_bool
  obtain ⟨hk1, hk8⟩ := hk
  clear hinj hown0 hrun hown1 hg1 hN hA hsm hokd
  go_enter Try.func63, Try.ntmps63
  go_wp2_with fail
  clear hrun' hmm
  go_loopw [11, 13] (fun vm vi wr => ∃ (i : Nat) (m n : List Nat) (vn va : Value) (D : DataW Unit) (f : Nat), vi = .int .i64 i ∧ OI w ok d K x acc i 0 m n vm vn va D f wr) (fun _ vi _ => 4097 - (intOf vi).toNat)
  case atStart => exact ⟨0, _, _, _, _, _, _, rfl, HO.out⟩
  case round =>
    clear HO
    obtain ⟨i, m, n, vn, va, D, f, rfl, hO⟩ := hrel
    obtain ⟨ma, mc, rfl⟩ := own_shape hO.sh.met
    have HO : Hid (OI w ok d K x acc i 0 m n (.slice ma m.length mc) vn va D f wr) := hO
    have him := hO.sh.il
    have hml := hO.bi.most
    clear hO
    by_cases hlt : i < m.length
    · have hiI : (i : Int) < m.length := by omega
      go_wp2_with fail
      go_loopw [11, 32] (fun vm vc wr => ∃ (c : Nat) (m n : List Nat) (vn va : Value) (D : DataW Unit) (f : Nat), vc = .int .i64 c ∧ c ≤ K ∧ i < m.length ∧ OI w ok d K x acc i c m n vm vn va D f wr) (fun _ vc _ => K - (intOf vc).toNat)
      case atStart => exact ⟨0, m, n, vn, va, D, f, rfl, Nat.zero_le _, hlt, HO.out⟩
      case round =>
        obtain ⟨c, m2, n2, vn2, va2, D2, f2, rfl, hcK, hi2, hO⟩ := hrel
        obtain ⟨ma2, mc2, rfl⟩ := own_shape hO.sh.met
        have HO2 : Hid (OI w ok d K x acc i c m2 n2 (.slice ma2 m2.length mc2) vn2 va2 D2 f2 wr) := hO
        have hml2 := hO.bi.most
        have hs := List.getElem?_eq_getElem hi2
        obtain ⟨s, hsE⟩ : ∃ s, m2[i] = s := ⟨_, rfl⟩
        rw [hsE] at hs
        have HS : Hid (m2[i]? = some s) := hs
        have HOKS : Hid (ok s) := hO.oks s (List.mem_of_getElem? hs)
        obtain ⟨g, rfl, hcell⟩ := met_cell hO.sh.met hs
        have hi2I : (i : Int) < m2.length := by omega
        have HB2 : Hid (Below w.heap.size w wr) := hO.sh.below
        clear hO hs hsE
        by_cases hc : c < K
        · have hcI : (c : Int) < K := by omega
          go_wp2_with fail
          refine (HN.out wr s c HB2.out HOKS.out hc).mono ?_
          rintro e w2 ⟨rfl, hb2⟩
          have HO3 : Hid (OI w ok d K x acc i c m2 n2 (.slice (some ⟨g, 0, none⟩) m2.length mc2) vn2 va2 D2 f2 w2) := HO2.out.call hb2
          obtain ⟨t, ht⟩ : ∃ t, d s c = t := ⟨_, rfl⟩
          have HT : Hid (d s c = t) := ht
          rw [ht]
          have hokt : ok t := ht ▸ HOKD.out s c HOKS.out hc
          have hkey := keyOf_int_mk Try.und_int (wfN (HSM.out t hokt))
          obtain ⟨na, nc2, rfl⟩ := own_shape HO3.out.sh.nxt
          have ho0 : w2.cell? ⟨w.heap.size + 1, 0, none⟩ = some (.int .i64 K) := cell_of HO3.out.sh.out
          have ho1 : w2.cell? ⟨w.heap.size + 1, 1, none⟩ = some (.slice na n2.length nc2) := cell_of HO3.out.sh.out
          have hnl : n2.length ≤ 32768 := by have := HO3.out.fu; omega
          clear hb2 HO2 HB2 hcell ht
          by_cases hin : t ∈ m2
          · have hh : Maps.has D2 (klI t) = true := by rw [HO3.out.mi.has t hokt]; exact decide_eq_true hin
            obtain ⟨p, hp⟩ : ∃ p, m2.idxOf t = p := ⟨_, rfl⟩
            have hnum : D2.atKey (klI t) (.lit (.int .i64 0)) = .lit (.int .i64 (p : Nat)) := by rw [HO3.out.mi.num t hokt hin, hp]
            have HP : Hid (m2.idxOf t = p) := hp
            have HIN : Hid (t ∈ m2) := hin
            clear hp hin
            go_wp2_with (first
              | (at_lookup; refine wpList_lookup_own_ok_int _ rfl _ _ 100 rfl 3 3 .i64 keyI Try.und_mapi Try.und_int (Try.zero_int _) (w.heap.size + 3) m2.length D2 rfl HO3.out.mp _ _ rfl hkey ?_; intro c0 hat hwc; rw [hnum] at hat; injection hat with hat; injection hat with _ hat; subst hat; rw [hh]; clear hwc)
              | (at_builtin; refine wpList_append_own_at _ rfl _ _ 22 rfl w.heap.size 3 i0 (.int .i64 0) 1 8 Try.underlying22 hi hz0 hz1 hz2 rfl (by decide) _ _ _ rfl (HO3.out.sh.nxt.alloc _) ⟨w2.heap.size, 0, none⟩ 1 1 [.int .i64 (p : Int)] rfl rfl (cell_one_new _ _ _) (by intro u hu; simp at hu; subst hu; rfl) (by unfold maxLen; omega) (by omega) (by have := HO3.out.sh.below.size; simp; omega) ?_; intro v' w4 hown' hgrow _ hloc
                 obtain ⟨va', vc', rfl⟩ := own_shape hown'
                 have hout4 := HO3.out.sh.outN HO3.out.sh.nxt (by decide) hgrow
                 have hcs : w4.cell? ⟨w.heap.size + 1, 1, none⟩ = some (.slice na n2.length nc2) := cell_of hout4
                 have hfz : w4.frozen? ⟨w.heap.size + 1, 1, none⟩ = false := froz_of hout4
                 obtain ⟨f', hO5⟩ := HO3.out.old (by decide) hc hk8 HS.out (by rw [HT.out]; exact HIN.out) hgrow (by rw [HT.out, HP.out]; exact hown') hloc
                 rw [HT.out, HP.out] at hO5
                 have HO5 : Hid _ := hO5
                 clear hO5 hown' hgrow hloc hout4 ho0 ho1))
            go_roundw
            case rel => exact ⟨c + 1, m2, n2 ++ [p], _, va2, D2, f', by go_num, by omega, hi2, HO5.out⟩
            case measure => simp [intOf]; omega
          · have hh : Maps.has D2 (klI t) = false := by rw [HO3.out.mi.has t hokt]; exact decide_eq_false hin
            have hnum : D2.atKey (klI t) (.lit (.int .i64 0)) = .lit (.int .i64 0) := atKey_of_not_has hh _
            have HIN : Hid (¬ t ∈ m2) := hin
            clear hin
            by_cases h4 : m2.length = 4096
            · have HR : Hid (bfs d K x = none) := by
                show _ = _
                obtain ⟨f', hf'⟩ : ∃ f', f2 = f' + 1 := ⟨f2 - 1, by
                  have h1 := HO3.out.fu
                  have h2 := HO3.out.nl
                  have h5 := Nat.mul_le_mul_right K (show i + 1 ≤ 4096 by omega)
                  have h6 := Nat.mul_le_mul_left 4096 hk8
                  rw [Nat.add_mul] at h5
                  omega⟩
                rw [← HO3.out.go, hf', bgo_full hc HO3.out.nl HS.out (by rw [HT.out]; exact HIN.out) h4]
              have h4I : (m2.length : Int) = 4096 := by omega
              have hr0 : w2.cell? ⟨w.heap.size, 0, none⟩ = some (.int .i64 0) := cell_of HO3.out.sh.res
              have hr1 : w2.cell? ⟨w.heap.size, 1, none⟩ = some (.slice none 0 0) := cell_of HO3.out.sh.res
              have hr2 : w2.cell? ⟨w.heap.size, 2, none⟩ = some (.slice none 0 0) := cell_of HO3.out.sh.res
              have hf : ∀ j, w2.frozen? ⟨w.heap.size, j, none⟩ = false := fun j => froz_of HO3.out.sh.res
              clear h4
              go_wp2_with (first
                | (at_lookup; refine wpList_lookup_own_ok_int _ rfl _ _ 100 rfl 3 3 .i64 keyI Try.und_mapi Try.und_int (Try.zero_int _) (w.heap.size + 3) m2.length D2 rfl HO3.out.mp _ _ rfl hkey ?_; intro c0 hat hwc; rw [hnum] at hat; injection hat with hat; injection hat with _ hat; subst hat; rw [hh]; clear hwc))
              have e1 : (((w2.setCell ⟨w.heap.size, 0, none⟩ (.int .i64 0)).setCell ⟨w.heap.size, 1, none⟩ (.slice none 0 0)).setCell ⟨w.heap.size, 2, none⟩ (.slice none 0 0)).heap[w.heap.size]? = some (.cells #[.int .i64 0, .slice none 0 0, .slice none 0 0] 25 (0, 0)) := heap_set (heap_set (heap_set HO3.out.sh.res))
              refine bodyPost_ret (results_auto rfl rfl e1 rfl) rfl (.inl ⟨HR.out, rfl, ?_⟩)
              exact ((HO3.out.sh.below.setCell (p := ⟨w.heap.size, 0, none⟩) (Nat.le_refl _) _).setCell (p := ⟨w.heap.size, 1, none⟩) (Nat.le_refl _) _).setCell (p := ⟨w.heap.size, 2, none⟩) (Nat.le_refl _) _
            · have h4I : ¬ (m2.length : Int) = 4096 := by omega
              have HSH : Hid (SH w 3 1 ceI K acc m2 n2 i (.slice (some ⟨g, 0, none⟩) m2.length mc2) (.slice na n2.length nc2) va2 w2) := HO3.out.sh
              go_wp2_with (first
                | (at_lookup; refine wpList_lookup_own_ok_int _ rfl _ _ 100 rfl 3 3 .i64 keyI Try.und_mapi Try.und_int (Try.zero_int _) (w.heap.size + 3) m2.length D2 rfl HO3.out.mp _ _ rfl hkey ?_; intro c0 hat hwc; rw [hnum] at hat; injection hat with hat; injection hat with _ hat; subst hat; rw [hh]; clear hwc)
                | (at_mapUpdate; refine wpList_mapUpdate_own _ rfl _ _ _ 100 rfl 3 3 keyI Try.und_mapi _ (w.heap.size + 3) m2.length D2 rfl HO3.out.mp (by unfold maxLen; omega) _ _ _ rfl rfl hkey _ [] (plainElem_int Try.und_int (wfN (by omega))) ?_; intro w5 hmo hmg
                   have HSH5 : Hid (SH w 3 1 ceI K acc m2 n2 i (.slice (some ⟨g, 0, none⟩) m2.length mc2) (.slice na n2.length nc2) va2 w5) := HSH.out.mapped hmg (map_blk hmo)
                   have HMO : Hid (w5.ownsMap Try.prog 3 (plainElem Try.prog 3) (w.heap.size + 3) (m2.length + 1) (D2.put (klI t) (.lit (.int .i64 (m2.length : Nat))))) := hmo
                   have HMG : Hid (w2.grownBy w5 (some (w.heap.size + 3))) := hmg
                   clear hmo hmg ho0 ho1)
                | (at_builtin; refine wpList_append_own_at _ rfl _ _ 22 rfl w.heap.size 3 i0 (.int .i64 0) 1 8 Try.underlying22 hi hz0 hz1 hz2 rfl (by decide) _ _ _ rfl (HSH5.out.met.alloc _) ⟨w5.heap.size, 0, none⟩ 1 1 [.int .i64 (t : Int)] rfl rfl (cell_one_new _ _ _) (by intro u hu; simp at hu; subst hu; rfl) (by unfold maxLen; omega) (by omega) (by have := HSH5.out.below.size; simp; omega) ?_; intro v6 w6 ho6 hg6 _ hl6
                   obtain ⟨va6, vc6, rfl⟩ := own_shape ho6
                   have HSH6 : Hid (SH w 3 1 ceI K acc (m2 ++ [t]) n2 i (.slice va6 (m2.length + 1) vc6) (.slice na n2.length nc2) va2 w6) := HSH5.out.metd (t := t) (by decide) (by decide) hg6 ho6 hl6
                   have HO6 : Hid (w6.ownsRow w.heap.size 3 1 (.slice va6 (m2.length + 1) vc6) (m2.length + 1) (m2.flatMap ceI ++ [.int .i64 (t : Int)])) := ho6
                   have HG6 : Hid ((w5.alloc (.cells #[.int .i64 (t : Int)] 3)).grownBy w6 (Value.slice (some ⟨g, 0, none⟩) m2.length mc2).ownBlock) := hg6
                   have HL6 : Hid ((Value.slice va6 (m2.length + 1) vc6).ownBlock = (Value.slice (some ⟨g, 0, none⟩) m2.length mc2).ownBlock ∨ (Value.slice va6 (m2.length + 1) vc6).ownBlock = some (w5.alloc (.cells #[.int .i64 (t : Int)] 3)).heap.size) := hl6
                   have hq0 : w6.cell? ⟨w.heap.size + 1, 0, none⟩ = some (.int .i64 K) := cell_of HSH6.out.out
                   have hq1 : w6.cell? ⟨w.heap.size + 1, 1, none⟩ = some (.slice na n2.length nc2) := cell_of HSH6.out.out
                   clear ho6 hg6 hl6)
                | (at_builtin; refine wpList_append_own_at _ rfl _ _ 22 rfl w.heap.size 3 i0 (.int .i64 0) 1 8 Try.underlying22 hi hz0 hz1 hz2 rfl (by decide) _ _ _ rfl (HSH6.out.nxt.alloc _) ⟨w6.heap.size, 0, none⟩ 1 1 [.int .i64 (m2.length : Int)] rfl rfl (cell_one_new _ _ _) (by intro u hu; simp at hu; subst hu; rfl) (by unfold maxLen; omega) (by omega) (by have := HSH6.out.below.size; simp; omega) ?_; intro v7 w7 ho7 hg7 _ hl7
                   obtain ⟨va7, vc7, rfl⟩ := own_shape ho7
                   have hout7 := HSH6.out.outN HSH6.out.nxt (by decide) hg7
                   have hcs : w7.cell? ⟨w.heap.size + 1, 1, none⟩ = some (.slice na n2.length nc2) := cell_of hout7
                   have hfz : w7.frozen? ⟨w.heap.size + 1, 1, none⟩ = false := froz_of hout7
                   obtain ⟨f', hO8⟩ := HO3.out.new (s := s) (by decide) (by decide) hc hk8 HINJ.out trivial (by rw [HT.out]; exact hokt) HO3.out.mp.isMap HS.out (by rw [HT.out]; exact HIN.out) h4 (by rw [HT.out]; exact HMO.out) HMG.out HG6.out (by rw [HT.out]; exact HO6.out) HL6.out hg7 ho7 hl7
                   rw [HT.out] at hO8
                   have HO8 : Hid _ := hO8
                   clear hO8 ho7 hg7 hl7 hout7 hq0 hq1))
              go_roundw
              case rel => exact ⟨c + 1, m2 ++ [t], n2 ++ [m2.length], _, va2, _, f', by go_num, by omega, by simp; omega, HO8.out⟩
              case measure => simp [intOf]; omega
        · have hcI : ¬ (c : Int) < K := by omega
          obtain rfl : c = K := by omega
          obtain ⟨aa, ac2, rfl⟩ := own_shape HO2.out.sh.acp
          have ho2 : wr.cell? ⟨w.heap.size + 1, 2, none⟩ = some (.slice aa i ac2) := cell_of HO2.out.sh.out
          have ho2d : wr.drew.cell? ⟨w.heap.size + 1, 2, none⟩ = some (.slice aa i ac2) := ho2
          have hcelld : wr.drew.cell? ⟨g, i, none⟩ = some (.int .i64 (s : Int)) := hcell
          obtain ⟨b, hb⟩ : ∃ b, acc s = b := ⟨_, rfl⟩
          have HACC : Hid (acc s = b) := hb
          clear hb
          go_wp2_with fail
          go_region_law (first
            | (rw [if_pos (by rfl)]; refine wp_append_own _ _ _ 23 rfl w.heap.size 4 i1 (.bool false) 1 1 Try.underlying23 hj hy0 hy1 hy2 rfl (by decide) _ _ _ rfl (HO4.out.sh.acp.alloc _) ⟨w3.heap.size, 0, none⟩ 1 1 [.bool b] rfl rfl (cell_one_new _ _ _) (by intro u hu; simp at hu; subst hu; rfl) (by unfold maxLen; omega) (by omega) (by have := HO4.out.sh.below.size; simp; omega) ?_; intro v9 w9 ho9 hg9 _
               obtain ⟨va9, vc9, rfl⟩ := own_shape ho9
               have hout9 := HO4.out.sh.outN HO4.out.sh.acp (by decide) hg9
               have hcs : w9.cell? ⟨w.heap.size + 1, 2, none⟩ = some (.slice aa i ac2) := cell_of hout9
               have hfz : w9.frozen? ⟨w.heap.size + 1, 2, none⟩ = false := froz_of hout9
               have hO9 := HO4.out.next (by decide) (by decide) HS.out hg9 (by rw [HACC.out]; exact ho9)
               have HO9 : Hid _ := hO9
               clear hO9 ho9 hg9 hout9)
            | (rw [if_pos (by rfl)]; go_wp2_with fail; refine (HA.out _ s (by first | exact HB2.out | exact HB2.out.drew) HOKS.out).mono ?_; rintro e w3 ⟨rfl, hb3⟩; rw [HACC.out]
               have HO4 : Hid (OI w ok d c x acc i c m2 n2 (.slice (some ⟨g, 0, none⟩) m2.length mc2) vn2 (.slice aa i ac2) D2 f2 w3) := HO2.out.call (go_on (Below.refl _ _).drew hb3)
               have ho2 : w3.cell? ⟨w.heap.size + 1, 2, none⟩ = some (.slice aa i ac2) := cell_of HO4.out.sh.out
               have ho2a : ∀ O, (w3.alloc O).cell? ⟨w.heap.size + 1, 2, none⟩ = some (.slice aa i ac2) := fun O => by rw [below_cell (below_new _ _) (by have := HO4.out.sh.big; omega)]; exact ho2
               clear hb3))
          all_goals (
            go_wp2_with fail
            go_roundw
            case rel => exact ⟨i + 1, m2, n2, vn2, _, D2, f2, by go_num, HO9.out⟩
            case measure => simp [intOf]; omega)
    · have hiI : ¬ (i : Int) < m.length := by omega
      have HE : Hid (i = m.length) := by show i = m.length; omega
      have e0 : wr.heap[w.heap.size]? = some (.cells #[.int .i64 0, .slice none 0 0, .slice none 0 0] 25 (0, 0)) := HO.out.sh.res
      obtain ⟨na, nc2, rfl⟩ := own_shape HO.out.sh.nxt
      obtain ⟨aa, ac2, rfl⟩ := own_shape HO.out.sh.acp
      have hr0 : wr.cell? ⟨w.heap.size, 0, none⟩ = some (.int .i64 0) := cell_of HO.out.sh.res
      have hr1 : wr.cell? ⟨w.heap.size, 1, none⟩ = some (.slice none 0 0) := cell_of HO.out.sh.res
      have hr2 : wr.cell? ⟨w.heap.size, 2, none⟩ = some (.slice none 0 0) := cell_of HO.out.sh.res
      have hf : ∀ j, wr.frozen? ⟨w.heap.size, j, none⟩ = false := fun j => froz_of HO.out.sh.res
      have ho0 : wr.cell? ⟨w.heap.size + 1, 0, none⟩ = some (.int .i64 K) := cell_of HO.out.sh.out
      have ho1 : wr.cell? ⟨w.heap.size + 1, 1, none⟩ = some (.slice na n.length nc2) := cell_of HO.out.sh.out
      have ho2 : wr.cell? ⟨w.heap.size + 1, 2, none⟩ = some (.slice aa i ac2) := cell_of HO.out.sh.out
      clear e0
      go_wp2_with fail
      have e1 : (((wr.setCell ⟨w.heap.size, 0, none⟩ (.int .i64 K)).setCell ⟨w.heap.size, 1, none⟩ (.slice na n.length nc2)).setCell ⟨w.heap.size, 2, none⟩ (.slice aa i ac2)).heap[w.heap.size]? = some (.cells #[.int .i64 K, .slice na n.length nc2, .slice aa i ac2] 25 (0, 0)) := heap_set (heap_set (heap_set HO.out.sh.res))
      refine bodyPost_ret (results_auto rfl rfl e1 rfl) rfl (.inr ⟨m, n, _, _, ?_, rfl, ?_, ?_, ?_⟩)
      · rw [← HO.out.go]
        exact bgo_end (by rw [HO.out.nl, HE.out]; omega)
      · refine own_keep HO.out.sh.nxt (fun b cur hb hc => ?_)
        have hne : b ≠ w.heap.size := fun e => by rw [e, HO.out.sh.res] at hc; cases hc
        rw [heap_set_other hne, heap_set_other hne, heap_set_other hne]
      · have h2 := HO.out.sh.acp
        rw [List.take_of_length_le (by rw [HE.out]; exact Nat.le_refl _)] at h2
        rw [← HE.out]
        refine own_keep h2 (fun b cur hb hc => ?_)
        have hne : b ≠ w.heap.size := fun e => by rw [e, HO.out.sh.res] at hc; cases hc
        rw [heap_set_other hne, heap_set_other hne, heap_set_other hne]
      · exact ((HO.out.sh.below.setCell (p := ⟨w.heap.size, 0, none⟩) (Nat.le_refl _) _).setCell (p := ⟨w.heap.size, 1, none⟩) (Nat.le_refl _) _).setCell (p := ⟨w.heap.size, 2, none⟩) (Nat.le_refl _) _
end Go.Proofs.Ytggheiblgghpkaa
