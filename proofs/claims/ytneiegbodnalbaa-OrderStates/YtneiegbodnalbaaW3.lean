/- O7 O8 O9 O10 O11, in one text. -/
import Derived.Test.YtneiegbodnalbaaW2
import Derived.WalkMore
import Derived.Deep.LoopGhost
import Derived.Deep.RegionHeld
import Derived.Test.YtneiegbodnalbaaW1
import Derived.Deep.AppendLies
namespace Go.Proofs.Ytneiegbodnalbaa
open Go Go.RowKit Go.Lib Go.Maps
set_option linter.unusedVariables false
attribute [-instance] List.instBEq instBEqProd

theorem ex_neq_set {ev : Operand → Value} {o : Oper} {ty : TypeId} {x y : Operand} {N M : Nat} (ho : o.op = .binOp .neq 55 x y ty) (hx : ev x = .agg (cellsF (word N))) (hy : ev y = .agg (cellsF (word M))) (hN : Fits N) (hM : Fits M) (w : World) : (execOp ev o).run Try.prog w = .ok (.value (.bool (!decide (N = M)))) w := by
  unfold execOp
  have e := eq_set hN hM w
  simp only [ho, hx, hy, Sem.run_bind, run_eqGuard_agg w .neq 55 x y _ _ Try.eqGuardType55, Result.andThen_ok, run_neq_struct, e, Sem.run_pure]
theorem LS.loadS {w : World} {g : Nat} {L : List Nat} (h : LS w g L) {i : Nat} (hi : i < L.length) : (loadVar 55 ⟨g, i * 8, none⟩).run Try.prog w = .ok (.agg (cellsF (word (L.getD i 0)))) w := h.load hi rfl

/-- What aboveIn answers. -/
def AbQ (A : Aut) (w : World) (en : Ending) (w' : World) : Prop :=
  ∃ g L, en = .returned (.slice (some ⟨g, 0, none⟩) A.ac.length A.ac.length) ∧ w.heap.size ≤ g ∧ LS w' g L ∧ AbV A L ∧ Below w.heap.size w w'

set_option maxHeartbeats 8000000 in
set_option maxRecDepth 100000 in
theorem aboveIn_any {w : World} {v : Value} {A : Aut} (h : AR w v A) (G : Good A) (h64 : A.ac.length ≤ 64) :
    Calls Try.prog 29 #[v] w (AbQ A w) := by
  have HKP : Hid (∀ y g cap L s, Below w.heap.size w y → LS y g L → L.length = A.ac.length → s < A.ac.length → Calls Try.prog 57 #[v, .slice (some ⟨g, 0, none⟩) L.length cap, .int .i64 (s : Nat)] y fun e w' => ∃ N, e = .returned (.agg (cellsF (word N))) ∧ kpN A L s A.ac.length N ∧ Below y.heap.size y w') := fun y g cap L s hy hL hl hs => kept_any (h.stay hy) G h64 hL hl s hs
  obtain ⟨an, cn, aa, ca, e, h1, h2⟩ := h.is
  subst e
  have hn1 := G.n1
  obtain ⟨n, hn⟩ : ∃ n, A.ac.length = n := ⟨_, rfl⟩
  have HN : Hid (A.ac.length = n) := hn
  have HG : Hid (Good A ∧ A.ac.length ≤ 64) := ⟨G, h64⟩
  have hn64 : 1 ≤ n ∧ n ≤ 64 := by omega
  have HN64 : Hid (1 ≤ n ∧ n ≤ 64) := hn64
  obtain ⟨w0, hw0⟩ : ∃ w0, w0 = w.alloc (.cells #[.int .i64 A.k, .slice an A.nx.length cn, .slice aa A.ac.length ca] 26) := ⟨_, rfl⟩
  have HW0 : Hid (w0 = w.alloc (.cells #[.int .i64 A.k, .slice an A.nx.length cn, .slice aa A.ac.length ca] 26)) := hw0
  have HB0 : Hid (Below w.heap.size w w0) := by show Below _ _ _; rw [hw0]; exact below_new _ _
  have HR0 : Hid (RowAt w0 w.heap.size #[.int .i64 A.k, .slice an A.nx.length cn, .slice aa A.ac.length ca]) := by show RowAt _ _ _; rw [hw0]; exact RowAt.last _ _ _
  have hz0 : w0.heap.size = w.heap.size + 1 := by rw [hw0]; simp
  have HZ0 : Hid (w0.heap.size = w.heap.size + 1) := hz0
  have HEW : Hid (Calls Try.prog 55 #[.slice aa A.ac.length ca] w0 (EwQ A w0)) := byEmptyWord_any (A := A) (ca := ca) (h2.stay HB0.out) h64
  obtain ⟨Q, hQ⟩ : ∃ Q, AbQ A w = Q := ⟨_, rfl⟩
  have HQE : Hid (AbQ A w = Q) := hQ
  rw [hQ]
  clear h h1 h2 hw0 hQ hn hn1 h64 G hz0
  go_enter Try.func29, Try.ntmps29
  go_wp2_with fail
  go_step3
  go_wp2_with fail
  rw [← HW0.out]
  refine Calls.mono HEW.out ?_
  rintro e w1 ⟨g, L0, rfl, hg, hls, hia, hb⟩
  rw [HN.out]
  have HB1 : Hid (Below w.heap.size w w1) := go_on HB0.out hb
  have HR1 : Hid (RowAt w1 w.heap.size #[.int .i64 A.k, .slice an A.nx.length cn, .slice aa A.ac.length ca]) := HR0.out.stay hb
  have HLS1 : Hid (LS w1 g L0) := hls
  have HIA1 : Hid (IA A L0) := hia
  have HGB : Hid (w.heap.size < g) := by have := HZ0.out; show _ < _; omega
  clear hb hls hia hg
  go_wp2_with fail
  go_step3
  go_wp2_with fail
  go_loopg [4] (wtO L0 n) (fun kk v4 wr => ∃ L, wtO L n ≤ kk ∧ IA A L ∧ LS wr g L ∧ RowAt wr w.heap.size #[.int .i64 A.k, .slice an A.nx.length cn, .slice aa A.ac.length ca] ∧ Below w.heap.size w wr)
  case atStart => exact ⟨L0, Nat.le_refl _, HIA1.out, HLS1.out, HR1.out, HB1.out⟩
  case round =>
    clear HB1 HR1 HLS1 HIA1
    obtain ⟨K, hwt, hia, hls, hr, hb⟩ := hrel
    have HWT : Hid (wtO K n ≤ gk) := hwt
    have HIA : Hid (IA A K) := hia
    have HLS : Hid (LS wr g K) := hls
    have HR : Hid (RowAt wr w.heap.size #[.int .i64 A.k, .slice an A.nx.length cn, .slice aa A.ac.length ca]) := hr
    have HC : Hid (Below w.heap.size w wr) := hb
    have HKL : Hid (K.length = n) := by show _ = _; rw [hia.len, HN.out]
    have HCL : Hid (∀ cp, Calls Try.prog 56 #[.slice (some ⟨g, 0, none⟩) n cp] wr fun e w' => ∃ g' c, e = .returned (.slice (some ⟨g', 0, none⟩) n c) ∧ wr.heap.size ≤ g' ∧ LS w' g' K ∧ Below wr.heap.size wr w') := fun cp => by
      have q := cloneS_any hls cp (by rw [HKL.out]; exact hn64.1) (by rw [HKL.out]; exact hn64.2)
      rwa [HKL.out] at q
    clear hwt hia hls hr hb
    go_wp2_with (go_at_call 56; refine (HCL.out _).mono ?_; rintro e w2 ⟨g2, c2, rfl, hg2, hls2, hb2⟩; have HN1 : IntKind.i64.wrap ((n : Int) - 1) = ((n - 1 : Nat) : Int) := (by rw [IntKind.wrap_i64]; omega))
    have HLS2 : Hid (LS w2 g2 K) := hls2
    have HLA2 : Hid (LS w2 g K) := HLS.out.below hb2
    have HR2 : Hid (RowAt w2 w.heap.size #[.int .i64 A.k, .slice an A.nx.length cn, .slice aa A.ac.length ca]) := HR.out.stay hb2
    have HC2 : Hid (Below w.heap.size w w2) := go_on HC.out hb2
    have HG2 : Hid (g2 ≠ g ∧ w.heap.size < g2) := by
      have q1 := HLS.out.lt
      have q2 := HC.out.size
      have q3 := HR.out.lt
      exact ⟨by omega, by omega⟩
    clear hls2 hb2 hg2 HR HC HLS HCL
    go_loopw [5] (fun vs wr => ((∃ s : Nat, vs = .int .i64 (s : Nat) ∧ s < n ∧ ∃ L, SwO A K (s + 1) L ∧ LS wr g L ∧ LS wr g2 K ∧ RowAt wr w.heap.size #[.int .i64 A.k, .slice an A.nx.length cn, .slice aa A.ac.length ca] ∧ Below w.heap.size w wr) ∨ (vs = .int .i64 (-1) ∧ ∃ L, SwO A K 0 L ∧ LS wr g L ∧ LS wr g2 K ∧ RowAt wr w.heap.size #[.int .i64 A.k, .slice an A.nx.length cn, .slice aa A.ac.length ca] ∧ Below w.heap.size w wr))) (fun vs _ => (Go.RowKit.intOf vs + 1).toNat)
    case atStart => exact .inl ⟨n - 1, rfl, by have := HN64.out; omega, K, by rw [show n - 1 + 1 = A.ac.length by have := HN.out; have := HN64.out; omega]; exact SwO.start HIA.out, HLA2.out, HLS2.out, HR2.out, HC2.out⟩
    case round =>
      clear HLS2 HLA2 HR2 HC2 HN1
      rcases hrel with ⟨s, rfl, hs, L, hsw, hla, hlb, hr, hb⟩ | ⟨rfl, L, hsw, hla, hlb, hr, hb⟩
      · have HSW : Hid (SwO A K (s + 1) L) := hsw
        have HLA : Hid (LS wr g L) := hla
        have HLB : Hid (LS wr g2 K) := hlb
        have HR : Hid (RowAt wr w.heap.size #[.int .i64 A.k, .slice an A.nx.length cn, .slice aa A.ac.length ca]) := hr
        have HC : Hid (Below w.heap.size w wr) := hb
        have HS : Hid (s < n) := hs
        have HLL : Hid (L.length = n) := by show _ = _; rw [hsw.ia.len, HN.out]
        have hsI : (s : Int) < n := by omega
        have hs0 : ¬ (s : Int) < 0 := by omega
        have hs0d : decide ((0 : Int) ≤ (s : Int)) = true := decide_eq_true (by omega)
        have hs5 : s < 64 := by omega
        obtain ⟨d, hd⟩ : ∃ d : Int, (s : Int) - 1 = d := ⟨_, rfl⟩
        have hwd : IntKind.i64.wrap ((s : Int) - 1) = d := by rw [hd, IntKind.wrap_i64]; omega
        have HD : Hid ((s : Int) - 1 = d) := hd
        have cs := hr.cell
        have HKC : Hid (∀ cp, Calls Try.prog 57 #[.agg #[.int .i64 A.k, .slice an A.nx.length cn, .slice aa A.ac.length ca], .slice (some ⟨g, 0, none⟩) n cp, .int .i64 (s : Nat)] wr fun e w' => ∃ N, e = .returned (.agg (cellsF (word N))) ∧ kpN A L s A.ac.length N ∧ Below wr.heap.size wr w') := fun cp => by
          have q := HKP.out wr g cp L s hb hla (by rw [HLL.out, HN.out]) (by rw [HN.out]; exact hs)
          rwa [HLL.out] at q
        clear hsw hla hlb hr hb hs hd
        go_wp2_with (go_at_call 57; refine (HKC.out _).mono ?_; rintro e w3 ⟨N, rfl, hkn, hb⟩; have HLA3 : Hid (LS w3 g L) := HLA.out.below hb; have HLB3 : Hid (LS w3 g2 K) := HLB.out.below hb; have HR3 : Hid (RowAt w3 w.heap.size #[.int .i64 A.k, .slice an A.nx.length cn, .slice aa A.ac.length ca]) := HR.out.stay hb; have HC3 : Hid (Below w.heap.size w w3) := go_on HC.out hb; have HKN : Hid (kpN A L s A.ac.length N) := hkn; have hst := HLA3.out.store (i := s) (e := s * 8) (by rw [HLL.out]; exact HS.out) rfl (word N); clear hb hkn cs)
        go_roundw
        case rel =>
          have hg := HG2.out
          have q1 := HLA3.out.set (N := N) (i := s) (by rw [HLL.out]; exact HS.out)
          have q2 := HLB3.out.keep (pw_other (o := s * 8) (cs := cellsF (word N)) hg.1)
          have q3 := rowAt_keep HR3.out (Nat.le_of_eq pw_size.symm) (pw_other (g := g) (o := s * 8) (cs := cellsF (word N)) (by have := HGB.out; omega))
          have q4 := pw_below (g := g) (o := s * 8) (cs := cellsF (word N)) HC3.out (by have := HGB.out; omega)
          have q5 := HSW.out.next HG.out.1 (by rw [HN.out]; exact HS.out) HKN.out
          have hd := HD.out
          by_cases e : s = 0
          · right
            subst e
            exact ⟨by rw [← hd]; rfl, _, q5, q1, q2, q3, q4⟩
          · left
            refine ⟨s - 1, ?_, by have := HS.out; omega, _, by rw [show s - 1 + 1 = s by omega]; exact q5, q1, q2, q3, q4⟩
            rw [← hd]
            congr 1
            omega
        case measure => have hd := HD.out; simp [Go.RowKit.intOf]; omega
      · have HSW : Hid (SwO A K 0 L) := hsw
        have HLA : Hid (LS wr g L) := hla
        have HLB : Hid (LS wr g2 K) := hlb
        have HR : Hid (RowAt wr w.heap.size #[.int .i64 A.k, .slice an A.nx.length cn, .slice aa A.ac.length ca]) := hr
        have HC : Hid (Below w.heap.size w wr) := hb
        have HLL : Hid (L.length = n) := by show _ = _; rw [hsw.ia.len, HN.out]
        have HIL : Hid (IA A L) := hsw.ia
        clear hsw hla hlb hr hb
        go_wp2_with fail
        go_loopw [29] (fun vs wz => ∃ s : Nat, vs = .int .i64 (s : Nat) ∧ s ≤ n ∧ (∀ t, t < s → L.getD t 0 = K.getD t 0) ∧ LS wz g L ∧ LS wz g2 K ∧ RowAt wz w.heap.size #[.int .i64 A.k, .slice an A.nx.length cn, .slice aa A.ac.length ca] ∧ Below w.heap.size w wz) (fun vs _ => n - (Go.RowKit.intOf vs).toNat)
        case atStart => exact ⟨0, rfl, Nat.zero_le _, fun t ht => absurd ht (by omega), HLA.out, HLB.out, HR.out, HC.out⟩
        case round =>
          clear HLA HLB HR HC
          obtain ⟨s, rfl, hs, hall, hla, hlb, hr, hb⟩ := hrel
          have HALL : Hid (∀ t, t < s → L.getD t 0 = K.getD t 0) := hall
          have HLA : Hid (LS wr g L) := hla
          have HLB : Hid (LS wr g2 K) := hlb
          have HR : Hid (RowAt wr w.heap.size #[.int .i64 A.k, .slice an A.nx.length cn, .slice aa A.ac.length ca]) := hr
          have HC : Hid (Below w.heap.size w wr) := hb
          by_cases hlt : s < n
          · have hsI : (s : Int) < n := by omega
            have hsd : decide ((s : Int) < n) = true := decide_eq_true hsI
            have hs5 : s < 64 := by omega
            have HS : Hid (s < n) := hlt
            obtain ⟨X, hX⟩ : ∃ X, L.getD s 0 = X := ⟨_, rfl⟩
            obtain ⟨Y, hY⟩ : ∃ Y, K.getD s 0 = Y := ⟨_, rfl⟩
            have HLX : Hid ((loadVar 55 ⟨g, s * 8, none⟩).run Try.prog wr = .ok (.agg (cellsF (word X))) wr) := by show _ = _; rw [← hX]; exact hla.loadS (by rw [HLL.out]; exact hlt)
            have HFX : Hid (Fits X ∧ Fits Y) := ⟨by rw [← hX]; exact HIL.out.fits HG.out.2 s, by rw [← hY]; exact HIA.out.fits HG.out.2 s⟩
            have HXK : Hid (L.getD s 0 = X ∧ K.getD s 0 = Y) := ⟨hX, hY⟩
            obtain ⟨wn, hwn⟩ : ∃ wn, wn = wr.alloc (.cells (cellsF (word X)) 55) := ⟨_, rfl⟩
            have HWN : Hid (wn = wr.alloc (.cells (cellsF (word X)) 55)) := hwn
            have hbn : Below wr.heap.size wr wn := by rw [hwn]; exact below_new _ _
            have HCX : Hid (Cells8 wn wr.heap.size (word X)) := by show Cells8 _ _ _; rw [hwn]; exact Cells8.last _ _
            have HLA' : Hid (LS wn g L) := hla.below hbn
            have HLB' : Hid (LS wn g2 K) := hlb.below hbn
            have HR' : Hid (RowAt wn w.heap.size #[.int .i64 A.k, .slice an A.nx.length cn, .slice aa A.ac.length ca]) := hr.stay hbn
            have HC' : Hid (Below w.heap.size w wn) := go_on hb hbn
            have HDY : Hid ((loadVar 55 ⟨g2, s * 8, none⟩).run Try.prog wn.drew = .ok (.agg (cellsF (word Y))) wn.drew) := by
              show _ = _
              rw [← hY]
              exact (HLB'.out.keep (w' := wn.drew) rfl).loadS (by rw [HKL.out]; exact hlt)
            have hst := st_setNewO wr (word X)
            clear hla hlb hr hb hs hall hlt hX hY hwn hbn HLA HLB HR HC
            go_wp2_with (refine oa_load (ad := ⟨g, s * 8, none⟩) rfl rfl HLX.out rfl ?_)
            rw [← HWN.out]
            obtain ⟨cb, hcb⟩ : ∃ cb, wr.heap.size = cb := ⟨_, rfl⟩
            rw [hcb] at HCX ⊢
            clear hst hcb HLX
            by_cases hxy : X = Y
            · have HXY : Hid ((!decide (X = Y)) = false) := by show _ = _; rw [decide_eq_true hxy]; rfl
              refine wp_region_held_drew (S := fun y => Cells8 y cb (word X) ∧ (loadVar 55 ⟨g2, s * 8, none⟩).run Try.prog y = .ok (.agg (cellsF (word Y))) y) (by kernel_rfl) ⟨HCX.out.drew, HDY.out⟩ (fun hH0 => ?_)
              refine wpAnyH_take (i := 0) (oi := { dst := some 34, op := Go.Op.load 55 (Go.Operand.tmp 7), type := 55, pos := "states.go:21", after := #[], guard := none }) (v := .agg (cellsF (word X))) rfl (by kernel_rfl) (by kernel_rfl) (by kernel_rfl) (fun _ _ _ h => h) (Or.inl ⟨by rfl, ?_⟩) (by assumption) ?_
              · intro w' hS; exact ex_load_row rfl rfl (lv_setO hS.1)
              simp only [Act.put, List.setIfInBounds_toArray, List.set_cons_zero, List.set_cons_succ]
              refine wpAnyH_take (i := 1) (oi := { dst := some 35, op := Go.Op.move (Go.Operand.tmp 4), type := 41, pos := "states.go:21", after := #[], guard := none }) (v := ?_) rfl (by kernel_rfl) (by kernel_rfl) (by kernel_rfl) (fun _ _ _ h => h) (Or.inl ⟨by rfl, ?_⟩) (by assumption) ?_
              rotate_left
              · intro w' hS; go_simp; (try with_reducible rfl)
              simp only [Act.put, List.setIfInBounds_toArray, List.set_cons_zero, List.set_cons_succ]
              refine wpAnyH_take (i := 2) (oi := { dst := some 36, op := Go.Op.move (Go.Operand.tmp 6), type := 3, pos := "states.go:21", after := #[], guard := none }) (v := ?_) rfl (by kernel_rfl) (by kernel_rfl) (by kernel_rfl) (fun _ _ _ h => h) (Or.inl ⟨by rfl, ?_⟩) (by assumption) ?_
              rotate_left
              · intro w' hS; go_simp; (try with_reducible rfl)
              simp only [Act.put, List.setIfInBounds_toArray, List.set_cons_zero, List.set_cons_succ]
              refine wpAnyH_take (i := 3) (oi := { dst := some 37, op := Go.Op.indexAddr 41 (Go.Operand.tmp 35) (Go.Operand.tmp 36), type := 0, pos := "states.go:21", after := #[{ on := 1, ground := Go.Ground.data }, { on := 2, ground := Go.Ground.data }], guard := none }) (v := ?_) rfl (by kernel_rfl) (by kernel_rfl) (by kernel_rfl) (fun _ _ _ h => h) (Or.inl ⟨by rfl, ?_⟩) (by assumption) ?_
              rotate_left
              · intro w' hS; go_simp; (try with_reducible rfl)
              simp only [Act.put, List.setIfInBounds_toArray, List.set_cons_zero, List.set_cons_succ]
              refine wpAnyH_take (i := 4) (oi := { dst := some 38, op := Go.Op.load 55 (Go.Operand.tmp 37), type := 55, pos := "states.go:21", after := #[{ on := 3, ground := Go.Ground.data }], guard := none }) (v := .agg (cellsF (word Y))) rfl (by kernel_rfl) (by kernel_rfl) (by kernel_rfl) (fun _ _ _ h => h) (Or.inl ⟨by rfl, ?_⟩) (by assumption) ?_
              · intro w' hS; exact ex_load_at (ad := ⟨g2, s * 8, none⟩) rfl rfl hS.2
              simp only [Act.put, List.setIfInBounds_toArray, List.set_cons_zero, List.set_cons_succ]
              refine wpAnyH_take (i := 5) (oi := { dst := some 39, op := Go.Op.binOp Go.BinOp.neq 55 (Go.Operand.tmp 34) (Go.Operand.tmp 38) 55, type := 4, pos := "states.go:21", after := #[{ on := 0, ground := Go.Ground.data }, { on := 4, ground := Go.Ground.data }], guard := none }) (v := .bool false) rfl (by kernel_rfl) (by kernel_rfl) (by kernel_rfl) (fun _ _ _ h => h) (Or.inl ⟨by rfl, ?_⟩) (by assumption) ?_
              · intro w' hS; exact (ex_neq_set (N := X) (M := Y) rfl rfl rfl HFX.out.1 HFX.out.2 w').trans (by rw [HXY.out])
              simp only [Act.put, List.setIfInBounds_toArray, List.set_cons_zero, List.set_cons_succ]
              refine wpAnyH_done (by kernel_rfl) ?_ _
              go_wp2_with fail
              go_roundw
              case rel =>
                refine ⟨s + 1, by go_num, HS.out, fun t ht => ?_, HLA'.out.keep rfl, HLB'.out.keep rfl, HR'.out.stay (Below.refl _ _).drew, HC'.out.drew⟩
                by_cases q : t = s
                · rw [q, HXK.out.1, HXK.out.2, hxy]
                · exact HALL.out t (by omega)
              case measure => have := HS.out; simp [Go.RowKit.intOf]; omega
            · have HXY : Hid ((!decide (X = Y)) = true) := by show _ = _; rw [decide_eq_false hxy]; rfl
              have HLE : Hid (wtO L n < wtO K n) := by
                have q := HSW.out.less HG.out.2 HIA.out (s := s) (by rw [HN.out]; exact HS.out) (by rw [HXK.out.1, HXK.out.2]; exact hxy)
                rwa [HN.out] at q
              refine wp_region_held_drew (S := fun y => Cells8 y cb (word X) ∧ (loadVar 55 ⟨g2, s * 8, none⟩).run Try.prog y = .ok (.agg (cellsF (word Y))) y) (by kernel_rfl) ⟨HCX.out.drew, HDY.out⟩ (fun hH0 => ?_)
              refine wpAnyH_take (i := 0) (oi := { dst := some 34, op := Go.Op.load 55 (Go.Operand.tmp 7), type := 55, pos := "states.go:21", after := #[], guard := none }) (v := .agg (cellsF (word X))) rfl (by kernel_rfl) (by kernel_rfl) (by kernel_rfl) (fun _ _ _ h => h) (Or.inl ⟨by rfl, ?_⟩) (by assumption) ?_
              · intro w' hS; exact ex_load_row rfl rfl (lv_setO hS.1)
              simp only [Act.put, List.setIfInBounds_toArray, List.set_cons_zero, List.set_cons_succ]
              refine wpAnyH_take (i := 1) (oi := { dst := some 35, op := Go.Op.move (Go.Operand.tmp 4), type := 41, pos := "states.go:21", after := #[], guard := none }) (v := ?_) rfl (by kernel_rfl) (by kernel_rfl) (by kernel_rfl) (fun _ _ _ h => h) (Or.inl ⟨by rfl, ?_⟩) (by assumption) ?_
              rotate_left
              · intro w' hS; go_simp; (try with_reducible rfl)
              simp only [Act.put, List.setIfInBounds_toArray, List.set_cons_zero, List.set_cons_succ]
              refine wpAnyH_take (i := 2) (oi := { dst := some 36, op := Go.Op.move (Go.Operand.tmp 6), type := 3, pos := "states.go:21", after := #[], guard := none }) (v := ?_) rfl (by kernel_rfl) (by kernel_rfl) (by kernel_rfl) (fun _ _ _ h => h) (Or.inl ⟨by rfl, ?_⟩) (by assumption) ?_
              rotate_left
              · intro w' hS; go_simp; (try with_reducible rfl)
              simp only [Act.put, List.setIfInBounds_toArray, List.set_cons_zero, List.set_cons_succ]
              refine wpAnyH_take (i := 3) (oi := { dst := some 37, op := Go.Op.indexAddr 41 (Go.Operand.tmp 35) (Go.Operand.tmp 36), type := 0, pos := "states.go:21", after := #[{ on := 1, ground := Go.Ground.data }, { on := 2, ground := Go.Ground.data }], guard := none }) (v := ?_) rfl (by kernel_rfl) (by kernel_rfl) (by kernel_rfl) (fun _ _ _ h => h) (Or.inl ⟨by rfl, ?_⟩) (by assumption) ?_
              rotate_left
              · intro w' hS; go_simp; (try with_reducible rfl)
              simp only [Act.put, List.setIfInBounds_toArray, List.set_cons_zero, List.set_cons_succ]
              refine wpAnyH_take (i := 4) (oi := { dst := some 38, op := Go.Op.load 55 (Go.Operand.tmp 37), type := 55, pos := "states.go:21", after := #[{ on := 3, ground := Go.Ground.data }], guard := none }) (v := .agg (cellsF (word Y))) rfl (by kernel_rfl) (by kernel_rfl) (by kernel_rfl) (fun _ _ _ h => h) (Or.inl ⟨by rfl, ?_⟩) (by assumption) ?_
              · intro w' hS; exact ex_load_at (ad := ⟨g2, s * 8, none⟩) rfl rfl hS.2
              simp only [Act.put, List.setIfInBounds_toArray, List.set_cons_zero, List.set_cons_succ]
              refine wpAnyH_take (i := 5) (oi := { dst := some 39, op := Go.Op.binOp Go.BinOp.neq 55 (Go.Operand.tmp 34) (Go.Operand.tmp 38) 55, type := 4, pos := "states.go:21", after := #[{ on := 0, ground := Go.Ground.data }, { on := 4, ground := Go.Ground.data }], guard := none }) (v := .bool true) rfl (by kernel_rfl) (by kernel_rfl) (by kernel_rfl) (fun _ _ _ h => h) (Or.inl ⟨by rfl, ?_⟩) (by assumption) ?_
              · intro w' hS; exact (ex_neq_set (N := X) (M := Y) rfl rfl rfl HFX.out.1 HFX.out.2 w').trans (by rw [HXY.out])
              simp only [Act.put, List.setIfInBounds_toArray, List.set_cons_zero, List.set_cons_succ]
              refine wpAnyH_done (by kernel_rfl) ?_ _
              go_wp2_with fail
              go_roundg (gk - 1)
              case measure => have := HLE.out; have := HWT.out; omega
              case rel => exact ⟨L, by have := HLE.out; have := HWT.out; omega, HIL.out, HLA'.out.keep rfl, HR'.out.stay (Below.refl _ _).drew, HC'.out.drew⟩
          · have hsI : ¬ (s : Int) < n := by omega
            have hsd : decide ((s : Int) < n) = false := decide_eq_false hsI
            have HV : Hid (AbV A L) := HSW.out.same HG.out.1 fun t ht => hall t (by rw [HN.out] at ht; omega)
            clear hla hlb hr hb hs hall hlt
            go_wp2_with fail
            rw [← HQE.out]
            unfold AbQ
            rw [HN.out]
            exact ⟨g, L, rfl, by have := HGB.out; omega, HLA.out, HV.out, HC.out⟩
end Go.Proofs.Ytneiegbodnalbaa

namespace Go.Proofs.Ytneiegbodnalbaa
open Go Go.RowKit Go.Lib Go.Maps
set_option linter.unusedVariables false
attribute [-instance] List.instBEq instBEqProd

/-- Where an element leads from 0. -/
def stO (A : Aut) (N : List Nat) (x : Nat) : Nat := goN A 0 (lw A.k.toNat N x)

theorem stO_zero (A : Aut) (N : List Nat) : stO A N 0 = 0 := by unfold stO; rw [lw_zero]; rfl
theorem stO_im {A : Aut} {M : List (List Nat)} {N : List Nat} (h : Mon A M N) {x : Nat} {l : List Nat} (hl : M[x]? = some l) : im l 0 = stO A N x := by
  have hx := (List.getElem?_eq_some_iff.1 hl).1
  have e := h.el hx
  rw [hl, Option.some.injEq] at e
  rw [e, act_im A _ (by have := h.G.n1; omega)]
  rfl
theorem stO_lt {A : Aut} {M : List (List Nat)} {N : List Nat} (h : Mon A M N) {x : Nat} (hx : x < M.length) : stO A N x < A.ac.length :=
  goN_lt h.G (by have := h.G.n1; omega) _ (fun c hc => by have := (h.lw x hx).1 c hc; have := h.G.ks; omega)
theorem stO_mr {A : Aut} {M : List (List Nat)} {N : List Nat} (h : Mon A M N) {x : Nat} (hx : x < M.length) {u : List Nat} (hu : Lt A.k.toNat u) : stO A N (mr A.k.toNat N x u) = goN A (stO A N x) u := by
  have e := h.el hx
  have r := h.run u e hu
  rw [← stO_im h r, ← stO_im h e]
  have h1 := h.G.n1
  unfold im
  rw [List.getD_eq_getElem?_getD, List.getElem?_map, List.getD_eq_getElem?_getD, List.getElem?_eq_getElem (by rw [act_len]; omega)]
  rfl
theorem stO_right {A : Aut} {M : List (List Nat)} {N : List Nat} (h : Mon A M N) {x c : Nat} (hx : x < M.length) (hc : c < A.k.toNat) : stO A N (N.getD (x * A.k.toNat + c) 0) = dN A (stO A N x) c := by
  have := stO_mr h hx (Lt.one hc)
  rwa [mr_one] at this
theorem stO_pr {A : Aut} {M : List (List Nat)} {N : List Nat} (h : Mon A M N) {x y : Nat} (hx : x < M.length) (hy : y < M.length) : stO A N (pr A.k.toNat N x y) = goN A (stO A N x) (Go.Proofs.Ytneiegbodnalbaa.lw A.k.toNat N y) := stO_mr h hx (h.lw y hy).1
theorem stO_word {A : Aut} {M : List (List Nat)} {N : List Nat} (h : Mon A M N) {u : List Nat} (hu : Lt A.k.toNat u) : stO A N (mr A.k.toNat N 0 u) = goN A 0 u := by
  rw [stO_mr h h.pos hu, stO_zero]
theorem acc_stO {A : Aut} {M : List (List Nat)} {N : List Nat} (h : Mon A M N) {x : Nat} (hx : x < M.length) : acc A M x = aN A (stO A N x) := by
  unfold acc
  rw [← stO_im h (List.getElem?_eq_getElem hx)]
  rw [List.getD_eq_getElem?_getD (l := M), List.getElem?_eq_getElem hx]
  rfl

/-- All elements in order, with their states. -/
def stL (A : Aut) (N : List Nat) (n : Nat) : List Nat := (List.range n).map (stO A N)
theorem stL_len (A : Aut) (N : List Nat) (n : Nat) : (stL A N n).length = n := by simp [stL]
theorem stL_at (A : Aut) (N : List Nat) {n x : Nat} (h : x < n) : (stL A N n).getD x 0 = stO A N x := by
  unfold stL
  rw [List.getD_eq_getElem?_getD, List.getElem?_map, List.getElem?_range h]
  rfl

/-- Is it the first element that leads to its state? -/
def fsB (A : Aut) (N : List Nat) (i : Nat) : Bool := (List.range i).all fun j => decide (stO A N j ≠ stO A N i)
theorem fsB_iff {A : Aut} {N : List Nat} {i : Nat} : fsB A N i = true ↔ ∀ j, j < i → stO A N j ≠ stO A N i := by
  unfold fsB
  rw [List.all_eq_true]
  simp
/-- The first elements that lead to a state, of those below x. -/
def fsL (A : Aut) (N : List Nat) (x : Nat) : List Nat := (List.range x).filter (fsB A N)
theorem fsL_succ (A : Aut) (N : List Nat) (x : Nat) : fsL A N (x + 1) = if fsB A N x = true then fsL A N x ++ [x] else fsL A N x := by
  unfold fsL
  rw [List.range_succ, List.filter_append]
  by_cases h : fsB A N x = true
  · rw [if_pos h, List.filter_cons_of_pos h]; rfl
  · rw [if_neg h, List.filter_cons_of_neg h]; simp
theorem fsL_len (A : Aut) (N : List Nat) (x : Nat) : (fsL A N x).length ≤ x := by
  have := List.length_filter_le (fsB A N) (List.range x)
  simpa [fsL] using this
theorem mem_fsL {A : Aut} {N : List Nat} {x i : Nat} : i ∈ fsL A N x ↔ i < x ∧ fsB A N i = true := by simp [fsL]

set_option maxHeartbeats 2000000 in
set_option maxRecDepth 100000 in
theorem mAuto_ok {w : World} {ob : Nat} {A : Aut} {M : List (List Nat)} {N : List Nat} (h : MO w ob A M N) :
    Calls Try.prog 30 #[.pointer (some ⟨ob, 0, none⟩)] w fun e w' => ∃ v, e = .returned v ∧ AR w' v A ∧ Below w.heap.size w w' := by
  have H : Hid (MO w ob A M N) := h
  obtain ⟨base, bt, b, mb, gw, ga, R, n, a, c, d, vl, D, an, cn, aa, ca, h⟩ := h
  have hln := h.mon.G.len
  have hn1 := h.mon.G.n1
  have h64 := h.mon.n64
  have hxl : 1 ≤ A.nx.length ∧ A.nx.length ≤ 40000 := by
    have G := h.mon.G
    have h1 : (1 : Int) * 1 ≤ (A.ac.length : Int) * A.k := Int.mul_le_mul (by omega) G.k1 (by omega) (by omega)
    have h2 : (A.ac.length : Int) * A.k ≤ 64 * 8 := Int.mul_le_mul (by omega) G.k8 (by have := G.k1; omega) (by omega)
    omega
  have har : AR w (.agg #[.int .i64 A.k, .slice an A.nx.length cn, .slice aa A.ac.length ca]) A := ⟨an, cn, aa, ca, rfl, own_sr h.nx, own_sr h.ac⟩
  obtain ⟨w0, hw0⟩ : ∃ w0, w0 = w.alloc (.cells #[.int .i64 0, .slice none 0 0, .slice none 0 0] 26) := ⟨_, rfl⟩
  have HW0 : Hid (w0 = w.alloc (.cells #[.int .i64 0, .slice none 0 0, .slice none 0 0] 26)) := hw0
  have HB0 : Hid (Below w.heap.size w w0) := by show Below _ _ _; rw [hw0]; exact below_new _ _
  have HZ : Hid (FZ w.heap.size w0) := ⟨_, _, _, by rw [hw0]; exact heap_last _ _⟩
  have HF : Hid (Calls Try.prog 44 #[.agg #[.int .i64 A.k, .slice an A.nx.length cn, .slice aa A.ac.length ca]] w0 fun e w' => ∃ v', e = .returned v' ∧ AW w0.heap.size w' v' A ∧ Below w0.heap.size w0 w') := fresh_any _ A w0 (har.stay HB0.out) hxl.1 hn1 hxl.2 (by omega)
  have HM0 : Hid (MO w0 ob A M N) := H.out.below HB0.out
  have hbx := (HB0.out.block ob (Array.getElem?_eq_some_iff.1 h.box).1).trans h.box
  have c1 : w0.cell? ⟨ob, 1, none⟩ = some (.int .i64 A.k) := cell_at hbx rfl
  have c2 : w0.cell? ⟨ob, 2, none⟩ = some (.slice an A.nx.length cn) := cell_at hbx rfl
  have c3 : w0.cell? ⟨ob, 3, none⟩ = some (.slice aa A.ac.length ca) := cell_at hbx rfl
  clear h hw0 hln hn1 h64 hxl har hbx
  go_enter Try.func30, Try.ntmps30
  go_wp2_with fail
  rw [← HW0.out]
  refine (mmade_any HM0.out).mono ?_
  rintro e w1 ⟨rfl, rfl⟩
  go_wp2_with fail
  refine HF.out.mono ?_
  rintro e w2 ⟨v, rfl, haw, hb⟩
  have HB2 : Hid (Below w0.heap.size w0 w2) := hb
  have HZ2 : Hid (FZ w.heap.size w2) := by
    obtain ⟨x, y, z, q⟩ := HZ.out
    exact ⟨x, y, z, (hb.block _ (Array.getElem?_eq_some_iff.1 q).1).trans q⟩
  obtain ⟨an2, cn2, aa2, ca2, rfl, ho1, ho2⟩ := haw
  have hz0 : w0.heap.size = w.heap.size + 1 := by rw [HW0.out]; simp
  have HO1 : Hid (w2.ownsRow (w.heap.size + 1) 3 1 (.slice an2 A.nx.length cn2) A.nx.length (zC A.nx)) := own_mono ho1 (by omega)
  have HO2 : Hid (w2.ownsRow (w.heap.size + 1) 4 1 (.slice aa2 A.ac.length ca2) A.ac.length (bC A.ac)) := own_mono ho2 (by omega)
  obtain ⟨f0, f1, f2, ff⟩ := HZ2.out.facts
  have hs := HZ2.out.set (.int .i64 A.k) (.slice an2 A.nx.length cn2) (.slice aa2 A.ac.length ca2)
  have HS : Hid ((((w2.setCell ⟨w.heap.size, 0, none⟩ (.int .i64 A.k)).setCell ⟨w.heap.size, 1, none⟩ (.slice an2 A.nx.length cn2)).setCell ⟨w.heap.size, 2, none⟩ (.slice aa2 A.ac.length ca2)).heap[w.heap.size]? = some (.cells #[.int .i64 A.k, .slice an2 A.nx.length cn2, .slice aa2 A.ac.length ca2] 26 (0, 0))) := hs
  clear hb hs c1 c2 c3 HF ho1 ho2 hz0
  go_wp2_with fail
  refine bodyPost_ret (results_cell_row rfl _ _ w.heap.size 26 _ (0, 0) _ rfl HS.out Try.underlying26 rfl (by rw [Try.info_au]; rfl)) rfl ⟨_, rfl, ?_, ?_⟩
  · have k : ∀ b, w.heap.size + 1 ≤ b → (((w2.setCell ⟨w.heap.size, 0, none⟩ (.int .i64 A.k)).setCell ⟨w.heap.size, 1, none⟩ (.slice an2 A.nx.length cn2)).setCell ⟨w.heap.size, 2, none⟩ (.slice aa2 A.ac.length ca2)).heap[b]? = w2.heap[b]? := fun b hb => by
      rw [heap_set_other (by omega), heap_set_other (by omega), heap_set_other (by omega)]
    exact ⟨_, _, _, _, rfl, own_sr (own_keep HO1.out (fun b cur hb _ => k b (own_blk HO1.out hb).1)), own_sr (own_keep HO2.out (fun b cur hb _ => k b (own_blk HO2.out hb).1))⟩
  · exact (((go_on HB0.out HB2.out).setCell (p := ⟨w.heap.size, 0, none⟩) (Nat.le_refl _) _).setCell (p := ⟨w.heap.size, 1, none⟩) (Nat.le_refl _) _).setCell (p := ⟨w.heap.size, 2, none⟩) (Nat.le_refl _) _
/-- What check answers. -/
def ckO (n : Nat) (xs : List Int) : Int := if xs.all (hasE n) then 0 else 11
theorem ckO_no {n : Nat} {xs : List Int} {i : Nat} (hi : i < xs.length) (h : hasE n (xs.getD i 0) = false) : ckO n xs = 11 := by
  unfold ckO
  rw [if_neg]
  intro q
  rw [List.all_eq_true] at q
  have := q _ (List.getElem_mem hi)
  rw [List.getD_eq_getElem?_getD, List.getElem?_eq_getElem hi] at h
  simp at h
  rw [h] at this
  cases this
theorem ckO_yes {n : Nat} {xs : List Int} (h : ∀ i, i < xs.length → hasE n (xs.getD i 0) = true) : ckO n xs = 0 := by
  unfold ckO
  rw [if_pos]
  rw [List.all_eq_true]
  intro x hx
  obtain ⟨i, hi, rfl⟩ := List.getElem_of_mem hx
  have := h i hi
  rw [List.getD_eq_getElem?_getD, List.getElem?_eq_getElem hi] at this
  exact this

set_option maxHeartbeats 2000000 in
set_option maxRecDepth 100000 in
theorem ocheck_any {w : World} {ob : Nat} {A : Aut} {M : List (List Nat)} {N : List Nat} (h : MO w ob A M N) {a : Option Addr} {c : Nat} {xs : List Int} (hx : SR w a (zC xs)) (hl : xs.length ≤ 100) :
    Calls Try.prog 28 #[.pointer (some ⟨ob, 0, none⟩), .slice a xs.length c] w fun e w' => e = .returned (.int .i64 (ckO M.length xs)) ∧ w = w' := by
  have HM : Hid (MO w ob A M N) := h
  have HX : Hid (SR w a (zC xs)) := hx
  have hn := h.mon.pos
  have hn5 := h.mon.most
  have hn0 : ((M.length : Int) == 0) = false := beq_eq_false_iff_ne.2 (by omega)
  have hn1 : ¬ (M.length : Int) = 0 := by omega
  clear h hx
  go_enter Try.func28, Try.ntmps28
  go_wp2_with fail
  refine (mlen_any HM.out).mono ?_
  rintro e w1 ⟨rfl, rfl⟩
  go_wp2_with fail
  clear hn0 hn1
  go_loopw [14] (fun vi wr => ∃ i : Nat, vi = .int .i64 (i : Nat) ∧ i ≤ xs.length ∧ (∀ j, j < i → hasE M.length (xs.getD j 0) = true) ∧ w = wr) (fun vi _ => xs.length - (Go.RowKit.intOf vi).toNat)
  case atStart => exact ⟨0, rfl, Nat.zero_le _, fun j hj => absurd hj (by omega), rfl⟩
  case round =>
    obtain ⟨i, rfl, hi, hall, rfl⟩ := hrel
    have HALL : Hid (∀ j, j < i → hasE M.length (xs.getD j 0) = true) := hall
    clear hall
    by_cases hlt : i < xs.length
    · have hiI : (i : Int) < xs.length := by omega
      have hid : decide ((i : Int) < xs.length) = true := decide_eq_true hiI
      have hi5 : i < 100 := by omega
      have HI : Hid (i < xs.length) := hlt
      obtain ⟨g, o, rfl, _, hc⟩ := HX.out.int hlt
      obtain ⟨x, hxx⟩ : ∃ x, xs.getD i 0 = x := ⟨_, rfl⟩
      rw [hxx] at hc
      have HXX : Hid (xs.getD i 0 = x) := hxx
      clear hlt hi hxx
      by_cases h0 : 0 ≤ x
      · have h0a : ¬ x < 0 := by omega
        have h0b : decide (x < 0) = false := decide_eq_false h0a
        by_cases h1 : x < M.length
        · have h1a : ¬ (M.length : Int) ≤ x := by omega
          have h1b : decide ((M.length : Int) ≤ x) = false := decide_eq_false h1a
          have HY : Hid (hasE M.length x = true) := decide_eq_true ⟨h0, h1⟩
          clear h0 h1
          go_wp2_with fail
          go_roundw
          case rel =>
            refine ⟨i + 1, by go_num, HI.out, fun j hj => ?_, by trivial⟩
            by_cases q : j = i
            · rw [q, HXX.out]; exact HY.out
            · exact HALL.out j (by omega)
          case measure => have := HI.out; simp [Go.RowKit.intOf]; omega
        · have h1a : (M.length : Int) ≤ x := by omega
          have h1b : decide ((M.length : Int) ≤ x) = true := decide_eq_true h1a
          have HV : Hid (ckO M.length xs = 11) := ckO_no HI.out (by rw [HXX.out]; exact decide_eq_false (by omega))
          clear h0 h1
          go_wp2_with fail
          go_ret
          exact ⟨by rw [HV.out]; rfl, rfl⟩
      · have h0a : x < 0 := by omega
        have h0b : decide (x < 0) = true := decide_eq_true h0a
        have HV : Hid (ckO M.length xs = 11) := ckO_no HI.out (by rw [HXX.out]; exact decide_eq_false (by omega))
        clear h0
        go_wp2_with fail
        go_ret
        exact ⟨by rw [HV.out]; rfl, rfl⟩
    · have hiI : ¬ (i : Int) < xs.length := by omega
      have hid : decide ((i : Int) < xs.length) = false := decide_eq_false hiI
      have HV : Hid (ckO M.length xs = 0) := ckO_yes fun j hj => HALL.out j (by omega)
      clear hlt hi
      go_wp2_with fail
      go_ret
      exact ⟨by rw [HV.out]; rfl, rfl⟩

set_option maxHeartbeats 1000000 in
set_option maxRecDepth 100000 in
theorem ocheck_no (p : Option Addr) (v : Value) (w : World) (h : NoM w (.pointer p)) : Calls Try.prog 28 #[.pointer p, v] w fun e w' => e = .returned (.int .i64 1) ∧ w = w' := by
  have HN : Hid (NoM w (.pointer p)) := h
  clear h
  go_enter Try.func28, Try.ntmps28
  go_wp2_with fail
  refine (mlen_no _ _ HN.out).mono ?_
  rintro e w1 ⟨rfl, rfl⟩
  go_wp2_with fail
  go_ret
  exact ⟨rfl, rfl⟩
end Go.Proofs.Ytneiegbodnalbaa

namespace Go.Proofs.Ytneiegbodnalbaa
open Go Go.RowKit Go.Lib Go.Maps
set_option linter.unusedVariables false
attribute [-instance] List.instBEq instBEqProd

/-- Contexts lie in block cb. -/
structure CX (w : World) (cb ob : Nat) (A : Aut) (M : List (List Nat)) (N L : List Nat) (ga gs : Nat) (fa : Option Addr) (fc : Nat) : Prop where
  box : w.heap[cb]? = some (.cells #[.pointer (some ⟨ob, 0, none⟩), .slice (some ⟨ga, 0, none⟩) A.ac.length A.ac.length, .slice (some ⟨gs, 0, none⟩) M.length M.length, .slice fa (fsL A N M.length).length fc] 100 (0, 0))
  mo : MO w ob A M N
  ls : LS w ga L
  av : AbV A L
  st : PR w gs (stL A N M.length) []
  fs : SR w fa (nC (fsL A N M.length))
theorem CX.below {w w' : World} {cb ob : Nat} {A : Aut} {M : List (List Nat)} {N L : List Nat} {ga gs : Nat} {fa : Option Addr} {fc : Nat} (h : CX w cb ob A M N L ga gs fa fc) (hb : Below w.heap.size w w') : CX w' cb ob A M N L ga gs fa fc :=
  ⟨(hb.block _ (Array.getElem?_eq_some_iff.1 h.box).1).trans h.box, h.mo.below hb, h.ls.below hb, h.av, h.st.below hb, h.fs.stay hb⟩

set_option maxHeartbeats 1000000 in
set_option maxRecDepth 100000 in
theorem oproduct_any {w : World} {cb ob : Nat} {A : Aut} {M : List (List Nat)} {N L : List Nat} {ga gs : Nat} {fa : Option Addr} {fc : Nat} (h : CX w cb ob A M N L ga gs fa fc) (i j : Nat) (hi : i < M.length) (hj : j < M.length) :
    Calls Try.prog 60 #[.pointer (some ⟨cb, 0, none⟩), .int .i64 (i : Nat), .int .i64 (j : Nat)] w fun e w' => e = .returned (.int .i64 (pr A.k.toNat N i j : Nat)) ∧ Below w.heap.size w w' := by
  have HP : Hid _ := mproduct_ok h.mo i j hi hj
  have c0 : w.cell? ⟨cb, 0, none⟩ = some (.pointer (some ⟨ob, 0, none⟩)) := cell_at h.box rfl
  clear h
  go_enter Try.func60, Try.ntmps60
  go_wp2_with fail
  refine Calls.mono HP.out ?_
  rintro e w1 ⟨rfl, hb⟩
  have HB : Hid (Below w.heap.size w w1) := hb
  clear hb c0
  go_wp2_with fail
  go_ret
  exact ⟨rfl, HB.out⟩

set_option maxHeartbeats 1000000 in
set_option maxRecDepth 100000 in
theorem oaccepts_any {w : World} {cb ob : Nat} {A : Aut} {M : List (List Nat)} {N L : List Nat} {ga gs : Nat} {fa : Option Addr} {fc : Nat} (h : CX w cb ob A M N L ga gs fa fc) (i : Nat) (hi : i < M.length) :
    Calls Try.prog 79 #[.pointer (some ⟨cb, 0, none⟩), .int .i64 (i : Nat)] w fun e w' => e = .returned (.bool (aN A (stO A N i))) ∧ w = w' := by
  have HP : Hid _ := maccept_ok h.mo i hi
  have HE : Hid (acc A M i = aN A (stO A N i)) := acc_stO h.mo.mon hi
  rw [HE.out] at HP
  have c0 : w.cell? ⟨cb, 0, none⟩ = some (.pointer (some ⟨ob, 0, none⟩)) := cell_at h.box rfl
  obtain ⟨b, hb⟩ : ∃ b, aN A (stO A N i) = b := ⟨_, rfl⟩
  rw [hb] at HP ⊢
  clear h hb
  go_enter Try.func79, Try.ntmps79
  go_wp2_with fail
  refine Calls.mono HP.out ?_
  rintro e w1 ⟨rfl, rfl⟩
  go_wp2_with fail
  go_ret
  exact ⟨rfl, rfl⟩

set_option maxHeartbeats 1000000 in
set_option maxRecDepth 100000 in
theorem oword_any {w : World} {cb ob : Nat} {A : Aut} {M : List (List Nat)} {N L : List Nat} {ga gs : Nat} {fa : Option Addr} {fc : Nat} (h : CX w cb ob A M N L ga gs fa fc) (i : Nat) (hi : i < M.length) :
    Calls Try.prog 80 #[.pointer (some ⟨cb, 0, none⟩), .int .i64 (i : Nat)] w fun e w' => e = .returned (.string (wb (lw A.k.toNat N i))) ∧ Below w.heap.size w w' := by
  have HP : Hid _ := mword_ok h.mo i hi
  have c0 : w.cell? ⟨cb, 0, none⟩ = some (.pointer (some ⟨ob, 0, none⟩)) := cell_at h.box rfl
  clear h
  go_enter Try.func80, Try.ntmps80
  go_wp2_with fail
  refine Calls.mono HP.out ?_
  rintro e w1 ⟨rfl, hb⟩
  have HB : Hid (Below w.heap.size w w1) := hb
  clear hb c0
  go_wp2_with fail
  go_ret
  exact ⟨rfl, HB.out⟩

/-- Is a word accepted from s and not from t? -/
def escB (L : List Nat) (s t : Nat) : Bool := ! (L.getD s 0).testBit t
/-- Is a word accepted from just one of them? -/
def unlB (L : List Nat) (s t : Nat) : Bool := ! decide (L.getD s 0 = L.getD t 0)

theorem escB_iff {A : Aut} {L : List Nat} (h : AbV A L) {s t : Nat} (hs : s < A.ac.length) (ht : t < A.ac.length) : escB L s t = false ↔ Inc A s t := by
  unfold escB
  rw [← h.iff s t hs ht]
  cases (L.getD s 0).testBit t <;> simp
theorem unlB_iff {A : Aut} {L : List Nat} (h : AbV A L) {s t : Nat} (hs : s < A.ac.length) (ht : t < A.ac.length) : unlB L s t = false ↔ Inc A s t ∧ Inc A t s := by
  unfold unlB
  rw [Bool.not_eq_false', decide_eq_true_iff]
  constructor
  · intro e
    refine ⟨(h.iff s t hs ht).1 ?_, (h.iff t s ht hs).1 ?_⟩
    · rw [e]; exact (h.iff t t ht ht).2 (Inc.refl A t)
    · rw [← e]; exact (h.iff s s hs hs).2 (Inc.refl A s)
  · rintro ⟨q1, q2⟩
    apply Nat.eq_of_testBit_eq
    intro r
    rw [Bool.eq_iff_iff]
    constructor
    · intro q
      have hr := h.low s r q
      exact (h.iff t r ht hr).2 (q2.trans ((h.iff s r hs hr).1 q))
    · intro q
      have hr := h.low t r q
      exact (h.iff s r hs hr).2 (q1.trans ((h.iff t r ht hr).1 q))

set_option maxHeartbeats 1000000 in
set_option maxRecDepth 100000 in
theorem escapes_any {w : World} {cb ob : Nat} {A : Aut} {M : List (List Nat)} {N L : List Nat} {ga gs : Nat} {fa : Option Addr} {fc : Nat} (h : CX w cb ob A M N L ga gs fa fc) (s t : Nat) (hs : s < A.ac.length) (ht : t < A.ac.length) :
    Calls Try.prog 52 #[.pointer (some ⟨cb, 0, none⟩), .int .i64 (s : Nat), .int .i64 (t : Nat)] w fun e w' => e = .returned (.bool (escB L s t)) ∧ Below w.heap.size w w' := by
  have h64 := h.mo.mon.n64
  obtain ⟨X, hX⟩ : ∃ X, L.getD s 0 = X := ⟨_, rfl⟩
  have HLD : Hid ((loadVar 55 ⟨ga, s * 8, none⟩).run Try.prog w = .ok (.agg (cellsF (word X))) w) := by show _ = _; rw [← hX]; exact h.ls.loadS (by rw [h.av.len]; exact hs)
  have HHS : Hid (Calls Try.prog 17 #[.agg (cellsF (word X)), .int .i64 (t : Nat)] w fun e w' => e = .returned (.bool (X.testBit t)) ∧ Below w.heap.size w w') := by
    have q := has_any X (t : Nat) w
    rwa [hasN_small (by omega)] at q
  have c1 : w.cell? ⟨cb, 1, none⟩ = some (.slice (some ⟨ga, 0, none⟩) A.ac.length A.ac.length) := cell_at h.box rfl
  have HE : Hid (escB L s t = ! X.testBit t) := by show _ = _; unfold escB; rw [hX]
  obtain ⟨b, hb⟩ : ∃ b, X.testBit t = b := ⟨_, rfl⟩
  rw [hb] at HHS HE
  have hsI : (s : Int) < A.ac.length := by omega
  clear h hX hb hs ht h64
  go_enter Try.func52, Try.ntmps52
  go_wp2_with (first | (refine oa_load (ad := ⟨ga, s * 8, none⟩) rfl rfl HLD.out rfl ?_) | (go_at_call 17; refine HHS.out.mono ?_; rintro e w1 ⟨rfl, hb⟩; have HB : Hid (Below w.heap.size w w1) := hb; clear hb))
  go_ret
  exact ⟨by rw [HE.out]; rfl, HB.out⟩
end Go.Proofs.Ytneiegbodnalbaa

namespace Go.Proofs.Ytneiegbodnalbaa
open Go Go.RowKit Go.Lib Go.Maps
set_option linter.unusedVariables false
attribute [-instance] List.instBEq instBEqProd

/-- The automaton's cells. -/
abbrev auC (A : Aut) (an : Option Addr) (cn : Nat) (aa : Option Addr) (ca : Nat) : Array Value := #[.int .i64 A.k, .slice an A.nx.length cn, .slice aa A.ac.length ca]

/-- Contexts while they are made: q of the right table's places are looked at. -/
structure XI (w : World) (lo ab cb gs mb ga ob : Nat) (arr : Array Value) (A : Aut) (M : List (List Nat)) (N L : List Nat) (q : Nat) (S : List Nat) (X : Nat) (F : List Nat) (fa : Option Addr) (fc : Nat) (wr : World) : Prop where
  row : RowAt wr ab arr
  box : wr.heap[cb]? = some (.cells #[.pointer (some ⟨ob, 0, none⟩), .slice (some ⟨ga, 0, none⟩) A.ac.length A.ac.length, .slice (some ⟨gs, 0, none⟩) M.length M.length, .slice fa F.length fc] 100 (0, 0))
  fr : wr.ownsRow lo 3 1 (.slice fa F.length fc) F.length (nC F)
  met : Cells8 wr mb (word X)
  st : PR wr gs S []
  len : S.length = M.length
  ok : ∀ y, y < M.length → (y = 0 ∨ ∃ p, p < q ∧ N[p]? = some y) → S.getD y 0 = stO A N y
  ls : LS wr ga L
  bel : Below w.heap.size w wr
  bl : w.heap.size ≤ ab ∧ w.heap.size ≤ ga ∧ ab < lo ∧ cb < lo ∧ gs < lo ∧ mb < lo ∧ ga < lo ∧ ab ≠ cb ∧ ab ≠ gs ∧ ab ≠ mb ∧ cb ≠ gs ∧ cb ≠ mb ∧ gs ≠ mb ∧ ga ≠ cb ∧ ga ≠ gs ∧ ga ≠ mb ∧ w.heap.size ≤ cb ∧ w.heap.size ≤ gs ∧ w.heap.size ≤ mb

theorem own_ne {w w' : World} {base j : Nat} {e : TypeId} {size n : Nat} {v : Value} {xs : List Value} (h : w.ownsRow base e size v n xs) (hj : j < base) (hk : ∀ b, b ≠ j → w'.heap[b]? = w.heap[b]?) : w'.ownsRow base e size v n xs :=
  own_keep h (fun b cur hb _ => hk b (by have := (own_blk h hb).1; omega))

theorem XI.call {w : World} {lo ab cb gs mb ga ob : Nat} {arr : Array Value} {A : Aut} {M : List (List Nat)} {N L : List Nat} {q : Nat} {S : List Nat} {X : Nat} {F : List Nat} {fa : Option Addr} {fc : Nat} {wr wx : World} (h : XI w lo ab cb gs mb ga ob arr A M N L q S X F fa fc wr) (hb : Below wr.heap.size wr wx) : XI w lo ab cb gs mb ga ob arr A M N L q S X F fa fc wx :=
  ⟨h.row.stay hb, (hb.block _ (Array.getElem?_eq_some_iff.1 h.box).1).trans h.box, own_below h.fr hb, h.met.below hb, h.st.below hb, h.len, h.ok, h.ls.below hb, go_on h.bel hb, h.bl⟩
theorem XI.meet {w : World} {lo ab cb gs mb ga ob : Nat} {arr : Array Value} {A : Aut} {M : List (List Nat)} {N L : List Nat} {q : Nat} {S : List Nat} {X : Nat} {F : List Nat} {fa : Option Addr} {fc : Nat} {wr : World} (h : XI w lo ab cb gs mb ga ob arr A M N L q S X F fa fc wr) (X' : Nat) : XI w lo ab cb gs mb ga ob arr A M N L q S X' F fa fc (wr.setRow mb (cellsF (word X'))) := by
  have hbl := h.bl
  have k : ∀ b, b ≠ mb → (wr.setRow mb (cellsF (word X'))).heap[b]? = wr.heap[b]? := fun b hb => setRow_other _ _ _ _ hb
  exact ⟨rowAt_keep h.row (Nat.le_of_eq (size_setRow ..).symm) (k _ (by omega)), (k _ (by omega)).trans h.box, own_ne h.fr (by omega) k, h.met.rowO, (k _ (by omega)).trans h.st, h.len, h.ok, h.ls.keep (k _ (by omega)), below_row h.bel (by omega), hbl⟩
theorem XI.set {w : World} {lo ab cb gs mb ga ob : Nat} {arr : Array Value} {A : Aut} {M : List (List Nat)} {N L : List Nat} {q : Nat} {S : List Nat} {X : Nat} {F : List Nat} {fa : Option Addr} {fc : Nat} {wr : World} (h : XI w lo ab cb gs mb ga ob arr A M N L q S X F fa fc wr) {y d : Nat} (hy : y < M.length) (hN : N[q]? = some y) (hd : stO A N y = d) : XI w lo ab cb gs mb ga ob arr A M N L (q + 1) (S.set y d) X F fa fc (wr.setCell ⟨gs, y, none⟩ (.int .i64 (d : Nat))) := by
  have hbl := h.bl
  have hl := h.len
  have k : ∀ b, b ≠ gs → (wr.setCell ⟨gs, y, none⟩ (.int .i64 (d : Nat))).heap[b]? = wr.heap[b]? := fun b hb => heap_set_other hb
  refine ⟨rowAt_keep h.row (by simp [World.setCell]) (k _ (by omega)), (k _ (by omega)).trans h.box, own_ne h.fr (by omega) k, h.met.of_heap (k _ (by omega)), h.st.set d (by omega), by rw [List.length_set]; exact hl, fun z hz hq => ?_, h.ls.keep (k _ (by omega)), h.bel.setCell (p := ⟨gs, y, none⟩) (by show w.heap.size ≤ gs; omega) _, hbl⟩
  rw [getD_set]
  by_cases e : z = y ∧ y < S.length
  · rw [if_pos e, e.1, hd]
  · rw [if_neg e]
    refine h.ok z hz ?_
    rcases hq with q0 | ⟨p, hp, hpz⟩
    · exact .inl q0
    · by_cases e2 : p = q
      · rw [e2, hN, Option.some.injEq] at hpz
        exact absurd ⟨hpz.symm, by omega⟩ e
      · exact .inr ⟨p, by omega, hpz⟩
theorem XI.append {w : World} {lo ab cb gs mb ga ob : Nat} {arr : Array Value} {A : Aut} {M : List (List Nat)} {N L : List Nat} {q : Nat} {S : List Nat} {X : Nat} {F : List Nat} {fa : Option Addr} {fc : Nat} {wr wx : World} {o : Obj} (h : XI w lo ab cb gs mb ga ob arr A M N L q S X F fa fc wr) {F' : List Nat} {n' : Nat} {fa' : Option Addr} {fc' : Nat} (hn : F'.length = n') (hlo : lo ≤ wr.heap.size) (ho : wx.ownsRow lo 3 1 (.slice fa' n' fc') n' (nC F')) (hg : (wr.alloc o).grownBy wx (Value.slice fa F.length fc).ownBlock) :
    wx.heap[cb]? = some (.cells #[.pointer (some ⟨ob, 0, none⟩), .slice (some ⟨ga, 0, none⟩) A.ac.length A.ac.length, .slice (some ⟨gs, 0, none⟩) M.length M.length, .slice fa F.length fc] 100 (0, 0)) ∧ XI w lo ab cb gs mb ga ob arr A M N L q S X F' fa' fc' (wx.setCell ⟨cb, 3, none⟩ (.slice fa' n' fc')) := by
  subst hn
  have hbl := h.bl
  have h1 := h.call (below_new wr o)
  have ow := h1.fr
  have k0 : ∀ b, b < lo → wx.heap[b]? = (wr.alloc o).heap[b]? := fun b hb => hg.block _ (by simp; omega) (fun e => by
    have q := (own_blk ow (b := b) (by rw [← e])).1
    omega)
  have k : ∀ b, b ≠ cb → (wx.setCell ⟨cb, 3, none⟩ (.slice fa' F'.length fc')).heap[b]? = wx.heap[b]? := fun b hb => heap_set_other hb
  have hbx : wx.heap[cb]? = some (.cells #[.pointer (some ⟨ob, 0, none⟩), .slice (some ⟨ga, 0, none⟩) A.ac.length A.ac.length, .slice (some ⟨gs, 0, none⟩) M.length M.length, .slice fa F.length fc] 100 (0, 0)) := (k0 cb (by omega)).trans h1.box
  have hbel : Below w.heap.size w wx := h1.bel.grown hg h1.bel.size (fun b hb => by have := (own_blk ow hb).1; omega)
  refine ⟨hbx, rowAt_keep h1.row ?_ ((k _ (by omega)).trans (k0 _ (by omega))), ?_, own_ne ho (by omega) k, h1.met.of_heap ((k _ (by omega)).trans (k0 _ (by omega))), ((k _ (by omega)).trans (k0 _ (by omega))).trans h1.st, h1.len, h1.ok, h1.ls.keep ((k _ (by omega)).trans (k0 _ (by omega))), hbel.setCell (p := ⟨cb, 3, none⟩) (by show w.heap.size ≤ cb; omega) _, hbl⟩
  · have := (Only.grown (S := fun _ => True) hg (fun _ _ => trivial)).size
    have e : (wx.setCell ⟨cb, 3, none⟩ (.slice fa' F'.length fc')).heap.size = wx.heap.size := by simp [World.setCell]
    omega
  · exact heap_set hbx

theorem size_setO (w : World) (b o : Nat) (v : Value) : (w.setCell ⟨b, o, none⟩ v).heap.size = w.heap.size := by simp [World.setCell]

/-- What contextsOf answers. -/
def CoQ (ob : Nat) (A : Aut) (M : List (List Nat)) (N : List Nat) (w : World) (en : Ending) (w' : World) : Prop :=
  ∃ cb L ga gs fa fc, en = .returned (.pointer (some ⟨cb, 0, none⟩)) ∧ CX w' cb ob A M N L ga gs fa fc ∧ Below w.heap.size w w'

/-- An element is found ahead of its own row. -/
theorem found_st {A : Aut} {M : List (List Nat)} {N : List Nat} (h : Mon A M N) {x : Nat} (hx : x < M.length) : x = 0 ∨ ∃ p, p < x * A.k.toNat ∧ N[p]? = some x := by
  by_cases e : x = 0
  · exact .inl e
  · obtain ⟨h1, h2, _⟩ := h.first (by omega) hx
    refine .inr ⟨_, ?_, h1⟩
    have hk := h.G.ks
    have := Nat.div_lt_iff_lt_mul (x := N.idxOf x) (y := x) (k := A.k.toNat) (by omega)
    exact this.1 h2

set_option maxHeartbeats 8000000 in
set_option maxRecDepth 100000 in
theorem contextsOf_any {w : World} {ob : Nat} {A : Aut} {M : List (List Nat)} {N : List Nat} (h : MO w ob A M N) :
    Calls Try.prog 31 #[.pointer (some ⟨ob, 0, none⟩)] w (CoQ ob A M N w) := by
  have HM : Hid (MO w ob A M N) := h
  have HMON : Hid (Mon A M N) := h.mon
  have HAU : Hid _ := mAuto_ok h
  obtain ⟨Q, hQ⟩ : ∃ Q, CoQ ob A M N w = Q := ⟨_, rfl⟩
  have HQE : Hid (CoQ ob A M N w = Q) := hQ
  rw [hQ]
  have hpos := h.mon.pos
  have hmost := h.mon.most
  have HN5 : Hid (1 ≤ M.length ∧ M.length ≤ 512) := ⟨hpos, hmost⟩
  obtain ⟨i0, hi0, hz0, hz1, hz2⟩ := info_parts Try.info_int
  have hmk := fun w0 => run_make (P := Try.prog) w0 23 3 i0 (.int .i64 0) Try.underlying23 hi0 hz0 .i64 .i64 (M.length : Int) (M.length : Int) (by omega) (by omega) (by rw [hz2]; omega) (by omega)
  have HI0 : Hid (Try.prog.info? 3 = some i0 ∧ i0.zero = some (.int .i64 0) ∧ i0.size = 1 ∧ i0.bytes = 8) := ⟨hi0, hz0, hz1, hz2⟩
  rw [hz1] at hmk
  simp only [Nat.mul_one] at hmk
  clear h hQ hi0 hz0 hz1 hz2 hpos hmost
  go_enter Try.func31, Try.ntmps31
  go_wp2_with fail
  refine Calls.mono HAU.out ?_
  rintro e w1 ⟨v, rfl, har, hb⟩
  obtain ⟨an, cn, aa, ca, rfl, hx1, hx2⟩ := har.is
  have hc1 := (HMON.out.G.at (s := 0) (c := 0) (by have := HMON.out.G.n1; omega) (by have := HMON.out.G.ks; omega)).1
  obtain ⟨gn, on, rfl, _, _⟩ := hx1.int (i := 0) (by omega)
  have HB1 : Hid (Below w.heap.size w w1) := hb
  have HAR1 : Hid (AR w1 (.agg (auC A (some ⟨gn, on, none⟩) cn aa ca)) A) := har
  have HNX1 : Hid (SR w1 (some ⟨gn, on, none⟩) (zC A.nx)) := hx1
  have HM1 : Hid (MO w1 ob A M N) := HM.out.below hb
  obtain ⟨w2, hw2⟩ : ∃ w2, w2 = w1.alloc (.cells (auC A (some ⟨gn, on, none⟩) cn aa ca) 26) := ⟨_, rfl⟩
  have HW2 : Hid (w2 = w1.alloc (.cells (auC A (some ⟨gn, on, none⟩) cn aa ca) 26)) := hw2
  have hb2 : Below w1.heap.size w1 w2 := by rw [hw2]; exact below_new _ _
  have HB12 : Hid (Below w1.heap.size w1 w2) := hb2
  have HR2 : Hid (RowAt w2 w1.heap.size (auC A (some ⟨gn, on, none⟩) cn aa ca)) := by show RowAt _ _ _; rw [hw2]; exact RowAt.last _ _ _
  have HAB : Hid _ := aboveIn_any (har.stay hb2) HMON.out.G HMON.out.n64
  have HM2 : Hid (MO w2 ob A M N) := HM1.out.below hb2
  have HZ2 : Hid (w2.heap.size = w1.heap.size + 1) := by show _ = _; rw [hw2]; simp
  clear hb hw2 hb2 har hx1 hx2 hc1 HAU
  go_wp2_with fail
  rw [← HW2.out]
  refine Calls.mono HAB.out ?_
  rintro e w3 ⟨ga, L, rfl, hga, hls, hav, hb⟩
  have HB3 : Hid (Below w2.heap.size w2 w3) := hb
  have HM3 : Hid (MO w3 ob A M N) := HM2.out.below hb
  have HLS3 : Hid (LS w3 ga L) := hls
  have HAV : Hid (AbV A L) := hav
  have HGA : Hid (w2.heap.size ≤ ga) := hga
  have HR3 : Hid (RowAt w3 w1.heap.size (auC A (some ⟨gn, on, none⟩) cn aa ca)) := HR2.out.stay hb
  clear hb hls hav hga HAB
  go_wp2_with fail
  refine (mlen_any HM3.out).mono ?_
  rintro e w4 ⟨rfl, rfl⟩
  go_wp2_with fail
  obtain ⟨gs, hgs⟩ : ∃ gs, w3.heap.size = gs := ⟨_, rfl⟩
  rw [hgs]
  obtain ⟨W, hW⟩ : ∃ W, W = ((w3.alloc (.cells (madeCells #[Value.int .i64 0] M.length) 3)).alloc (.cells #[.pointer (some ⟨ob, 0, none⟩), .slice (some ⟨ga, 0, none⟩) A.ac.length A.ac.length, .slice (some ⟨gs, 0, none⟩) M.length M.length, .slice none 0 0] 100)).alloc (.cells #[.int .u64 0, .int .u64 0, .int .u64 0, .int .u64 0, .int .u64 0, .int .u64 0, .int .u64 0, .int .u64 0] 55) := ⟨_, rfl⟩
  rw [← hW]
  have HXI : Hid (XI w1 (gs + 1 + 1 + 1) w1.heap.size (gs + 1) gs (gs + 1 + 1) ga ob (auC A (some ⟨gn, on, none⟩) cn aa ca) A M N L 0 (List.replicate M.length 0) 0 [] none 0 W) := by
    have hz2 := HZ2.out
    have hg3 := HB3.out.size
    have hgl := HLS3.out.lt
    have hga := HGA.out
    have e1 : (w3.alloc (.cells (madeCells #[Value.int .i64 0] M.length) 3)).heap.size = gs + 1 := by simp; omega
    have e2 : ((w3.alloc (.cells (madeCells #[Value.int .i64 0] M.length) 3)).alloc (.cells #[.pointer (some ⟨ob, 0, none⟩), .slice (some ⟨ga, 0, none⟩) A.ac.length A.ac.length, .slice (some ⟨gs, 0, none⟩) M.length M.length, .slice none 0 0] 100)).heap.size = gs + 1 + 1 := by simp; omega
    have hbW : Below w3.heap.size w3 W := by rw [hW]; exact go_on (go_on (below_new _ _) (below_new _ _)) (below_new _ _)
    refine ⟨HR3.out.stay hbW, ?_, World.ownsRow_nil _ _ _ _, ?_, ?_, by simp, ?_, HLS3.out.below hbW, go_on HB12.out (go_on HB3.out hbW), by omega⟩
    · rw [hW, heap_allo (by omega), ← e1]
      exact heap_last _ _
    · have q := Cells8.last ((w3.alloc (.cells (madeCells #[Value.int .i64 0] M.length) 3)).alloc (.cells #[.pointer (some ⟨ob, 0, none⟩), .slice (some ⟨ga, 0, none⟩) A.ac.length A.ac.length, .slice (some ⟨gs, 0, none⟩) M.length M.length, .slice none 0 0] 100)) (fun _ => 0)
      rw [e2] at q
      rw [hW]
      exact q.congr (fun k _ => (word_zero k).symm)
    · show _ = _
      rw [hW, heap_allo (by omega), heap_allo (by omega), ← hgs, heap_last, made_nC, List.append_nil]
    · intro y hy hq
      rcases hq with rfl | ⟨p, hp, _⟩
      · rw [stO_zero, List.getD_eq_getElem?_getD, List.getElem?_replicate]
        split <;> rfl
      · omega
  have HLO : Hid (gs + 1 + 1 + 1 ≤ W.heap.size) := by show _ ≤ _; rw [hW]; simp; omega
  obtain ⟨cb, hcb⟩ : ∃ c, gs + 1 = c := ⟨_, rfl⟩
  obtain ⟨mb, hmb⟩ : ∃ c, cb + 1 = c := ⟨_, rfl⟩
  obtain ⟨lo, hlo⟩ : ∃ c, mb + 1 = c := ⟨_, rfl⟩
  obtain ⟨ab, hab⟩ : ∃ c, w1.heap.size = c := ⟨_, rfl⟩
  rw [hcb, hmb, hlo, hab] at HXI
  rw [hcb, hmb, hlo] at HLO
  rw [hcb, hmb, hab]
  clear hW hgs hcb hmb hlo hab HR3 HLS3 HGA HZ2 HB3 HR2 hmk HM2
  go_loopw [26] (fun vx wr => ∃ (x : Nat) (S : List Nat) (X : Nat) (F : List Nat) (fa : Option Addr) (fc : Nat), vx = .int .i64 (x : Nat) ∧ x ≤ M.length ∧ XI w1 lo ab cb gs mb ga ob (auC A (some ⟨gn, on, none⟩) cn aa ca) A M N L (x * A.k.toNat) S X F fa fc wr ∧ F = fsL A N x ∧ (∀ s, X.testBit s = true ↔ ∃ j, j < x ∧ stO A N j = s) ∧ lo ≤ wr.heap.size) (fun vx _ => M.length - (Go.RowKit.intOf vx).toNat)
  case atStart => exact ⟨0, _, 0, [], none, 0, rfl, Nat.zero_le _, by rw [Nat.zero_mul]; exact HXI.out, rfl, fun s => ⟨fun q => by simp at q, fun ⟨j, hj, _⟩ => absurd hj (by omega)⟩, HLO.out⟩
  case round =>
    clear HXI HLO
    obtain ⟨x, S, X, F, fa, fc, rfl, hx, hxi, hF, hX, hlo⟩ := hrel
    have HX : Hid (XI w1 lo ab cb gs mb ga ob (auC A (some ⟨gn, on, none⟩) cn aa ca) A M N L (x * A.k.toNat) S X F fa fc wr) := hxi
    have HFE : Hid (F = fsL A N x) := hF
    have HXB : Hid (∀ s, X.testBit s = true ↔ ∃ j, j < x ∧ stO A N j = s) := hX
    have HLO : Hid (lo ≤ wr.heap.size) := hlo
    clear hxi hF hX hlo
    have hn5 := HN5.out
    by_cases hlt : x < M.length
    · have hxI : (x : Int) < M.length := by omega
      have hxd : decide ((x : Int) < M.length) = true := decide_eq_true hxI
      have HXL : Hid (x < M.length) := hlt
      have hx5 : x < 512 := by omega
      obtain ⟨s, hs⟩ : ∃ s, stO A N x = s := ⟨_, rfl⟩
      have HS : Hid (stO A N x = s) := hs
      have hsl : s < A.ac.length := by rw [← hs]; exact stO_lt HMON.out hlt
      have hs64 : s < 64 := by have := HMON.out.n64; omega
      have HSL : Hid (s < A.ac.length ∧ s < 64) := ⟨hsl, hs64⟩
      have hcs := HX.out.st.cell (i := x) (by rw [HX.out.len]; exact hlt)
      rw [HX.out.ok x hlt (found_st HMON.out hlt), hs] at hcs
      have hc2 : wr.cell? ⟨cb, 2, none⟩ = some (.slice (some ⟨gs, 0, none⟩) M.length M.length) := cell_at HX.out.box rfl
      have HHS : Hid (∀ y, Calls Try.prog 17 #[.agg (cellsF (word X)), .int .i64 (s : Nat)] y fun e w' => e = .returned (.bool (X.testBit s)) ∧ Below y.heap.size y w') := fun y => by
        have q := has_any X (s : Nat) y
        rwa [hasN_small (by omega)] at q
      have HWI : Hid (∀ y, Calls Try.prog 50 #[.agg (cellsF (word X)), .int .i64 (s : Nat)] y fun e w' => e = .returned (.tuple #[.agg (cellsF (word (X ||| 2 ^ s))), .int .i64 0]) ∧ Below y.heap.size y w') := fun y => by
        have q := with_any X (s : Nat) y
        rw [(withN_small (X := X) (i := s) (by omega)).1, (withN_small (X := X) (i := s) (by omega)).2] at q
        exact q
      have HFB : Hid (X.testBit s = true ↔ fsB A N x = false) := by
        show _ ↔ _
        rw [HXB.out s]
        constructor
        · rintro ⟨j, hj, e⟩
          cases q : fsB A N x with
          | false => rfl
          | true => exact absurd (e.trans hs.symm) (fsB_iff.1 q j hj)
        · intro q
          apply Classical.byContradiction
          intro q2
          have : fsB A N x = true := fsB_iff.2 fun j hj e => q2 ⟨j, hj, e.trans hs⟩
          rw [this] at q
          cases q
      obtain ⟨b, hb⟩ : ∃ b, X.testBit s = b := ⟨_, rfl⟩
      rw [hb] at HHS HFB
      have HBE : Hid (X.testBit s = b) := hb
      clear hs hsl hb hlt hx hn5 hs64
      cases b with
      | true =>
        have HF1 : Hid (fsL A N (x + 1) = F) := by show _ = _; rw [fsL_succ, if_neg (by rw [HFB.out.1 rfl]; simp), HFE.out]
        have HXB1 : Hid (∀ t, X.testBit t = true ↔ ∃ j, j < x + 1 ∧ stO A N j = t) := fun t => by
          rw [HXB.out t]
          constructor
          · rintro ⟨j, hj, e⟩; exact ⟨j, by omega, e⟩
          · rintro ⟨j, hj, e⟩
            by_cases q : j = x
            · rw [← HXB.out t, ← e, q, HS.out]; exact HBE.out
            · exact ⟨j, by omega, e⟩
        obtain ⟨X1, hX1⟩ : ∃ X1, X1 = X := ⟨_, rfl⟩
        go_wp2_with (first | (refine os_load rfl rfl HX.out.met rfl ?_) | (go_at_call 17; refine (HHS.out _).mono ?_; rintro e y1 ⟨rfl, hb⟩; have HX1 : Hid (XI w1 lo ab cb gs mb ga ob (auC A (some ⟨gn, on, none⟩) cn aa ca) A M N L (x * A.k.toNat) S X F fa fc y1) := HX.out.call hb; have HLO1 : Hid (lo ≤ y1.heap.size) := Nat.le_trans HLO.out hb.size; have hk0 : y1.cell? ⟨ab, 0, none⟩ = some (.int .i64 A.k) := HX1.out.row.cell 0; clear hb))
        clear hk0 hcs hc2
        rw [← hX1] at HX1 HXB1
        clear hX1 HX HFB HBE HXB HFE HLO
        rw [← HF1.out] at HX1
        go_loopw [58] (fun vl wz => ∃ (l : Nat) (S' : List Nat), vl = .int .i64 (l : Nat) ∧ l ≤ A.k.toNat ∧ XI w1 lo ab cb gs mb ga ob (auC A (some ⟨gn, on, none⟩) cn aa ca) A M N L (x * A.k.toNat + l) S' X1 (fsL A N (x + 1)) fa fc wz ∧ lo ≤ wz.heap.size) (fun vl _ => A.k.toNat - (Go.RowKit.intOf vl).toNat)
        case atStart => exact ⟨0, S, rfl, Nat.zero_le _, by rw [Nat.add_zero]; exact HX1.out, HLO1.out⟩
        case round =>
          clear HX1 HLO1
          obtain ⟨l, S', rfl, hl, hxi, hlo⟩ := hrel
          have HXR : Hid (XI w1 lo ab cb gs mb ga ob (auC A (some ⟨gn, on, none⟩) cn aa ca) A M N L (x * A.k.toNat + l) S' X1 (fsL A N (x + 1)) fa fc wr) := hxi
          have HLOR : Hid (lo ≤ wr.heap.size) := hlo
          clear hxi hlo
          have hks := HMON.out.G.ks
          by_cases hlk : l < A.k.toNat
          · have hlI : (l : Int) < A.k := by omega
            have hld : decide ((l : Int) < A.k) = true := decide_eq_true hlI
            have HLK : Hid (l < A.k.toNat) := hlk
            have hl8 : l < 8 := by omega
            obtain ⟨xx, hxx⟩ : ∃ xx, 97 + l = xx := ⟨_, rfl⟩
            have hu1 : IntKind.u8.wrap (l : Int) = (l : Nat) := by rw [IntKind.wrap_u8]; omega
            have hu2 : IntKind.u8.wrap (97 + (l : Int)) = (xx : Nat) := by rw [IntKind.wrap_u8]; omega
            obtain ⟨y, hy⟩ : ∃ y, N.getD (x * A.k.toNat + l) 0 = y := ⟨_, rfl⟩
            obtain ⟨_, _, hm2, hm3⟩ := HMON.out.at HXL.out hlk
            rw [hy] at hm2
            have HYL : Hid (y < M.length) := (List.getElem?_eq_some_iff.1 hm2).1
            have HNY : Hid (N[x * A.k.toNat + l]? = some y) := by
              show _ = _
              rw [← hy, List.getD_eq_getElem?_getD, List.getElem?_eq_getElem hm3]
              rfl
            obtain ⟨d, hd⟩ : ∃ d, dN A s l = d := ⟨_, rfl⟩
            have HSD : Hid (stO A N y = d) := by show _ = _; rw [← hy, stO_right HMON.out HXL.out hlk, HS.out, hd]
            have a1 := HMON.out.G.at HSL.out.1 hlI
            rw [hd] at a1
            obtain ⟨p, hp⟩ : ∃ p, s * A.k.toNat + l = p := ⟨_, rfl⟩
            obtain ⟨m1, hm1⟩ : ∃ p, s * A.k.toNat = p := ⟨_, rfl⟩
            rw [hp] at a1
            have hxl : A.nx.length ≤ 512 := by
              have G := HMON.out.G
              have h64 := HMON.out.n64
              have h1 : (A.ac.length : Int) * A.k ≤ 64 * 8 := Int.mul_le_mul (by omega) G.k8 (by have := G.k1; omega) (by omega)
              have := G.len
              omega
            have q1 : ((s : Nat) : Int) * A.k = (m1 : Nat) := by rw [← hks.2.2, ← hm1]; push_cast; rfl
            have hw1 : IntKind.i64.wrap ((s : Int) * A.k) = (m1 : Nat) := by rw [q1, IntKind.wrap_i64]; omega
            have hw2 : IntKind.i64.wrap ((m1 : Int) + (l : Int)) = (p : Nat) := by rw [IntKind.wrap_i64]; omega
            have hi1 : (p : Int) < A.nx.length := by omega
            have hyl : y < M.length := HYL.out
            have hiy : (y : Int) < M.length := by omega
            have HNX : Hid (∀ u, XI w1 lo ab cb gs mb ga ob (auC A (some ⟨gn, on, none⟩) cn aa ca) A M N L (x * A.k.toNat + l) S' X1 (fsL A N (x + 1)) fa fc u → u.cell? ⟨gn, on + p, none⟩ = some (.int .i64 (d : Nat))) := fun u hu => by
              obtain ⟨_, _, e, _, q⟩ := (HNX1.out.stay hu.bel).int (i := p) a1.1
              simp only [Option.some.injEq, Addr.mk.injEq, and_true] at e
              obtain ⟨rfl, rfl⟩ := e
              rw [a1.2.1] at q
              exact q
            have HRT : Hid (Calls Try.prog 58 #[.pointer (some ⟨ob, 0, none⟩), .int .i64 (x : Nat), .int .u8 (xx : Nat)] wr fun e w' => e = .returned (.tuple #[.int .i64 (y : Nat), .int .i64 0]) ∧ Below wr.heap.size wr w') := by
              have q := mright_ok (HM1.out.below HXR.out.bel) x l xx HXL.out hlk hxx
              rwa [hy] at q
            clear hxx hy hm2 hm3 hd hp hm1 a1 q1 hxl hl hlk hyl
            go_wp2_with fail
            refine HRT.out.mono ?_
            rintro e y2 ⟨rfl, hb⟩
            have HX2 : Hid (XI w1 lo ab cb gs mb ga ob (auC A (some ⟨gn, on, none⟩) cn aa ca) A M N L (x * A.k.toNat + l) S' X1 (fsL A N (x + 1)) fa fc y2) := HXR.out.call hb
            have HLO2 : Hid (lo ≤ y2.heap.size) := Nat.le_trans HLOR.out hb.size
            clear hb hks
            go_upto_region 15 with fail
            obtain ⟨y0, hy0⟩ : ∃ y0, y0 = y2.drew := ⟨_, rfl⟩
            have HX0 : Hid (XI w1 lo ab cb gs mb ga ob (auC A (some ⟨gn, on, none⟩) cn aa ca) A M N L (x * A.k.toNat + l) S' X1 (fsL A N (x + 1)) fa fc y0) := by show XI _ _ _ _ _ _ _ _ _ _ _ _ _ _ _ _ _ _ _ _; rw [hy0]; exact HX2.out.call (Below.refl _ _).drew
            have HLO0 : Hid (lo ≤ y0.heap.size) := by show _ ≤ _; rw [hy0]; exact HLO2.out
            have HXN : Hid (XI w1 lo ab cb gs mb ga ob (auC A (some ⟨gn, on, none⟩) cn aa ca) A M N L (x * A.k.toNat + (l + 1)) (S'.set y d) X1 (fsL A N (x + 1)) fa fc (y0.setCell ⟨gs, y, none⟩ (.int .i64 (d : Nat)))) := HX0.out.set HYL.out HNY.out HSD.out
            have HLON : Hid (lo ≤ (y0.setCell ⟨gs, y, none⟩ (.int .i64 (d : Nat))).heap.size) := by show _ ≤ _; rw [size_setO]; exact HLO0.out
            have HGC : Hid (y0.cell? ⟨gs, y, none⟩ = some (.int .i64 (S'.getD y 0 : Nat))) := HX0.out.st.cell (by rw [HX0.out.len]; exact HYL.out)
            have HGF : Hid (y0.frozen? ⟨gs, y, none⟩ = false) := HX0.out.st.frz
            refine wp_region_L 16 (fun u => XI w1 lo ab cb gs mb ga ob (auC A (some ⟨gn, on, none⟩) cn aa ca) A M N L (x * A.k.toNat + l) S' X1 (fsL A N (x + 1)) fa fc u) (by kernel_rfl) (by rw [← hy0]; exact HX0.out) (fun hH0 => ?_)
            rw [← hy0] at hH0 ⊢
            clear hy0
            refine wpAnyL_take (i := 0) (oi := { dst := some 70, op := Go.Op.move (Go.Operand.tmp 4), type := 75, pos := "contexts.go:32", after := #[], guard := none }) (v := ?_) rfl (by kernel_rfl) (by kernel_rfl) (by decide) (by kernel_rfl) (by kernel_rfl) (by kernel_rfl) (fun _ _ _ h => h) (Or.inl ⟨by rfl, ?_⟩) (by assumption) ?_
            rotate_left
            · intro w' hS; go_simp; (try with_reducible rfl)
            simp only [Act.put, List.setIfInBounds_toArray, List.set_cons_zero, List.set_cons_succ]
            refine wpAnyL_take (i := 1) (oi := { dst := some 71, op := Go.Op.nilCheck (Go.Operand.tmp 70), type := 0, pos := "contexts.go:32", after := #[{ on := 0, ground := Go.Ground.data }], guard := none }) (v := ?_) rfl (by kernel_rfl) (by kernel_rfl) (by decide) (by kernel_rfl) (by kernel_rfl) (by kernel_rfl) (fun _ _ _ h => h) (Or.inl ⟨by rfl, ?_⟩) (by assumption) ?_
            rotate_left
            · intro w' hS; go_simp; (try with_reducible rfl)
            simp only [Act.put, List.setIfInBounds_toArray, List.set_cons_zero, List.set_cons_succ]
            refine wpAnyL_take (i := 2) (oi := { dst := some 72, op := Go.Op.fieldAddr 100 (Go.Operand.tmp 71) 2, type := 0, pos := "contexts.go:32", after := #[{ on := 1, ground := Go.Ground.data }], guard := none }) (v := ?_) rfl (by kernel_rfl) (by kernel_rfl) (by decide) (by kernel_rfl) (by kernel_rfl) (by kernel_rfl) (fun _ _ _ h => h) (Or.inl ⟨by rfl, ?_⟩) (by assumption) ?_
            rotate_left
            · intro w' hS; go_simp; (try with_reducible rfl)
            simp only [Act.put, List.setIfInBounds_toArray, List.set_cons_zero, List.set_cons_succ]
            refine wpAnyL_take (i := 3) (oi := { dst := some 73, op := Go.Op.load 23 (Go.Operand.tmp 72), type := 23, pos := "contexts.go:32", after := #[{ on := 2, ground := Go.Ground.data }], guard := none }) (v := .slice (some ⟨gs, 0, none⟩) M.length M.length) rfl (by kernel_rfl) (by kernel_rfl) (by decide) (by kernel_rfl) (by kernel_rfl) (by kernel_rfl) (fun _ _ _ h => h) (Or.inl ⟨by rfl, ?_⟩) (by assumption) ?_
            · intro w' hS; have hz : w'.cell? ⟨cb, 2, none⟩ = some (.slice (some ⟨gs, 0, none⟩) M.length M.length) := cell_at hS.box rfl; go_simp
            simp only [Act.put, List.setIfInBounds_toArray, List.set_cons_zero, List.set_cons_succ]
            refine wpAnyL_take (i := 4) (oi := { dst := some 74, op := Go.Op.move (Go.Operand.tmp 9), type := 3, pos := "contexts.go:32", after := #[], guard := none }) (v := ?_) rfl (by kernel_rfl) (by kernel_rfl) (by decide) (by kernel_rfl) (by kernel_rfl) (by kernel_rfl) (fun _ _ _ h => h) (Or.inl ⟨by rfl, ?_⟩) (by assumption) ?_
            rotate_left
            · intro w' hS; go_simp; (try with_reducible rfl)
            simp only [Act.put, List.setIfInBounds_toArray, List.set_cons_zero, List.set_cons_succ]
            refine wpAnyL_take (i := 5) (oi := { dst := some 75, op := Go.Op.fieldAddr 26 (Go.Operand.tmp 3) 1, type := 0, pos := "contexts.go:32", after := #[], guard := none }) (v := ?_) rfl (by kernel_rfl) (by kernel_rfl) (by decide) (by kernel_rfl) (by kernel_rfl) (by kernel_rfl) (fun _ _ _ h => h) (Or.inl ⟨by rfl, ?_⟩) (by assumption) ?_
            rotate_left
            · intro w' hS; go_simp; (try with_reducible rfl)
            simp only [Act.put, List.setIfInBounds_toArray, List.set_cons_zero, List.set_cons_succ]
            refine wpAnyL_take (i := 6) (oi := { dst := some 76, op := Go.Op.load 23 (Go.Operand.tmp 75), type := 23, pos := "contexts.go:32", after := #[{ on := 5, ground := Go.Ground.data }], guard := none }) (v := .slice (some ⟨gn, on, none⟩) A.nx.length cn) rfl (by kernel_rfl) (by kernel_rfl) (by decide) (by kernel_rfl) (by kernel_rfl) (by kernel_rfl) (fun _ _ _ h => h) (Or.inl ⟨by rfl, ?_⟩) (by assumption) ?_
            · intro w' hS; have hz : w'.cell? ⟨ab, 1, none⟩ = some (.slice (some ⟨gn, on, none⟩) A.nx.length cn) := hS.row.cell 1; go_simp
            simp only [Act.put, List.setIfInBounds_toArray, List.set_cons_zero, List.set_cons_succ]
            refine wpAnyL_take (i := 7) (oi := { dst := some 77, op := Go.Op.move (Go.Operand.tmp 7), type := 3, pos := "contexts.go:32", after := #[], guard := none }) (v := ?_) rfl (by kernel_rfl) (by kernel_rfl) (by decide) (by kernel_rfl) (by kernel_rfl) (by kernel_rfl) (fun _ _ _ h => h) (Or.inl ⟨by rfl, ?_⟩) (by assumption) ?_
            rotate_left
            · intro w' hS; go_simp; (try with_reducible rfl)
            simp only [Act.put, List.setIfInBounds_toArray, List.set_cons_zero, List.set_cons_succ]
            refine wpAnyL_take (i := 8) (oi := { dst := some 78, op := Go.Op.fieldAddr 26 (Go.Operand.tmp 3) 0, type := 0, pos := "contexts.go:32", after := #[], guard := none }) (v := ?_) rfl (by kernel_rfl) (by kernel_rfl) (by decide) (by kernel_rfl) (by kernel_rfl) (by kernel_rfl) (fun _ _ _ h => h) (Or.inl ⟨by rfl, ?_⟩) (by assumption) ?_
            rotate_left
            · intro w' hS; go_simp; (try with_reducible rfl)
            simp only [Act.put, List.setIfInBounds_toArray, List.set_cons_zero, List.set_cons_succ]
            refine wpAnyL_take (i := 9) (oi := { dst := some 79, op := Go.Op.load 3 (Go.Operand.tmp 78), type := 3, pos := "contexts.go:32", after := #[{ on := 8, ground := Go.Ground.data }], guard := none }) (v := .int .i64 A.k) rfl (by kernel_rfl) (by kernel_rfl) (by decide) (by kernel_rfl) (by kernel_rfl) (by kernel_rfl) (fun _ _ _ h => h) (Or.inl ⟨by rfl, ?_⟩) (by assumption) ?_
            · intro w' hS; have hz : w'.cell? ⟨ab, 0, none⟩ = some (.int .i64 A.k) := hS.row.cell 0; go_simp
            simp only [Act.put, List.setIfInBounds_toArray, List.set_cons_zero, List.set_cons_succ]
            refine wpAnyL_take (i := 10) (oi := { dst := some 80, op := Go.Op.binOp Go.BinOp.mul 3 (Go.Operand.tmp 77) (Go.Operand.tmp 79) 3, type := 3, pos := "contexts.go:32", after := #[{ on := 7, ground := Go.Ground.data }, { on := 9, ground := Go.Ground.data }], guard := none }) (v := ?_) rfl (by kernel_rfl) (by kernel_rfl) (by decide) (by kernel_rfl) (by kernel_rfl) (by kernel_rfl) (fun _ _ _ h => h) (Or.inl ⟨by rfl, ?_⟩) (by assumption) ?_
            rotate_left
            · intro w' hS; go_simp; (try with_reducible rfl)
            simp only [Act.put, List.setIfInBounds_toArray, List.set_cons_zero, List.set_cons_succ]
            refine wpAnyL_take (i := 11) (oi := { dst := some 81, op := Go.Op.move (Go.Operand.tmp 8), type := 3, pos := "contexts.go:32", after := #[], guard := none }) (v := ?_) rfl (by kernel_rfl) (by kernel_rfl) (by decide) (by kernel_rfl) (by kernel_rfl) (by kernel_rfl) (fun _ _ _ h => h) (Or.inl ⟨by rfl, ?_⟩) (by assumption) ?_
            rotate_left
            · intro w' hS; go_simp; (try with_reducible rfl)
            simp only [Act.put, List.setIfInBounds_toArray, List.set_cons_zero, List.set_cons_succ]
            refine wpAnyL_take (i := 12) (oi := { dst := some 82, op := Go.Op.binOp Go.BinOp.add 3 (Go.Operand.tmp 80) (Go.Operand.tmp 81) 3, type := 3, pos := "contexts.go:32", after := #[{ on := 10, ground := Go.Ground.data }, { on := 11, ground := Go.Ground.data }], guard := none }) (v := ?_) rfl (by kernel_rfl) (by kernel_rfl) (by decide) (by kernel_rfl) (by kernel_rfl) (by kernel_rfl) (fun _ _ _ h => h) (Or.inl ⟨by rfl, ?_⟩) (by assumption) ?_
            rotate_left
            · intro w' hS; go_simp; (try with_reducible rfl)
            simp only [Act.put, List.setIfInBounds_toArray, List.set_cons_zero, List.set_cons_succ]
            refine wpAnyL_take (i := 13) (oi := { dst := some 83, op := Go.Op.indexAddr 23 (Go.Operand.tmp 76) (Go.Operand.tmp 82), type := 0, pos := "contexts.go:32", after := #[{ on := 6, ground := Go.Ground.data }, { on := 12, ground := Go.Ground.data }], guard := none }) (v := ?_) rfl (by kernel_rfl) (by kernel_rfl) (by decide) (by kernel_rfl) (by kernel_rfl) (by kernel_rfl) (fun _ _ _ h => h) (Or.inl ⟨by rfl, ?_⟩) (by assumption) ?_
            rotate_left
            · intro w' hS; go_simp; (try with_reducible rfl)
            simp only [Act.put, List.setIfInBounds_toArray, List.set_cons_zero, List.set_cons_succ]
            refine wpAnyL_take (i := 14) (oi := { dst := some 84, op := Go.Op.load 3 (Go.Operand.tmp 83), type := 3, pos := "contexts.go:32", after := #[{ on := 13, ground := Go.Ground.data }], guard := none }) (v := .int .i64 (d : Nat)) rfl (by kernel_rfl) (by kernel_rfl) (by decide) (by kernel_rfl) (by kernel_rfl) (by kernel_rfl) (fun _ _ _ h => h) (Or.inl ⟨by rfl, ?_⟩) (by assumption) ?_
            · intro w' hS; have hz := HNX.out w' hS; go_simp
            simp only [Act.put, List.setIfInBounds_toArray, List.set_cons_zero, List.set_cons_succ]
            refine wpAnyL_take (i := 15) (oi := { dst := some 85, op := Go.Op.indexAddr 23 (Go.Operand.tmp 73) (Go.Operand.tmp 74), type := 0, pos := "contexts.go:32", after := #[{ on := 3, ground := Go.Ground.data }, { on := 4, ground := Go.Ground.data }, { on := 0, ground := Go.Ground.phase }, { on := 1, ground := Go.Ground.phase }, { on := 2, ground := Go.Ground.phase }, { on := 3, ground := Go.Ground.phase }, { on := 4, ground := Go.Ground.phase }, { on := 5, ground := Go.Ground.phase }, { on := 6, ground := Go.Ground.phase }, { on := 7, ground := Go.Ground.phase }, { on := 8, ground := Go.Ground.phase }, { on := 9, ground := Go.Ground.phase }, { on := 10, ground := Go.Ground.phase }, { on := 11, ground := Go.Ground.phase }, { on := 12, ground := Go.Ground.phase }, { on := 13, ground := Go.Ground.phase }, { on := 14, ground := Go.Ground.phase }], guard := none }) (v := ?_) rfl (by kernel_rfl) (by kernel_rfl) (by decide) (by kernel_rfl) (by kernel_rfl) (by kernel_rfl) (fun _ _ _ h => h) (Or.inl ⟨by rfl, ?_⟩) (by assumption) ?_
            rotate_left
            · intro w' hS; go_simp; (try with_reducible rfl)
            simp only [Act.put, List.setIfInBounds_toArray, List.set_cons_zero, List.set_cons_succ]
            refine wpAnyL_ready (rs := [16]) (by kernel_rfl) (by simp) ?_
            refine AllReadyL.last rfl (fun KQ hK => ?_)
            have hc := HGC.out
            have hf := HGF.out
            go_simp
            refine hK.out _ _ ?_
            clear hc hf
            clear hK KQ
            refine wpAnyL_done (by kernel_rfl) ?_ _
            go_wp2_with fail
            go_roundw
            case rel => exact ⟨l + 1, _, by go_num, HLK.out, HXN.out, HLON.out⟩
            case measure => have := HLK.out; simp [Go.RowKit.intOf]; omega
          · have hlI : ¬ (l : Int) < A.k := by omega
            have hld : decide ((l : Int) < A.k) = false := decide_eq_false hlI
            have HLE : Hid (x * A.k.toNat + l = (x + 1) * A.k.toNat) := by show _ = _; rw [Nat.add_mul, Nat.one_mul]; omega
            clear hlk hl hks
            go_wp2_with fail
            go_roundw
            case rel => exact ⟨x + 1, S', X1, fsL A N (x + 1), fa, fc, by go_num, HXL.out, by rw [← HLE.out]; exact HXR.out, rfl, HXB1.out, HLOR.out⟩
            case measure => have := HXL.out; simp [Go.RowKit.intOf]; omega
      | false =>
        have HF1 : Hid (fsL A N (x + 1) = F ++ [x]) := by
          show _ = _
          have : fsB A N x = true := by
            cases q : fsB A N x with
            | true => rfl
            | false => exact absurd (HFB.out.2 q) (by simp)
          rw [fsL_succ, if_pos this, HFE.out]
        obtain ⟨X1, hX1⟩ : ∃ X1, X ||| 2 ^ s = X1 := ⟨_, rfl⟩
        rw [hX1] at HWI
        have HXB1 : Hid (∀ t, X1.testBit t = true ↔ ∃ j, j < x + 1 ∧ stO A N j = t) := fun t => by
          rw [← hX1, Nat.testBit_or, Nat.testBit_two_pow, Bool.or_eq_true, decide_eq_true_iff, HXB.out t]
          constructor
          · rintro (⟨j, hj, e⟩ | e)
            · exact ⟨j, by omega, e⟩
            · exact ⟨x, by omega, HS.out.trans e⟩
          · rintro ⟨j, hj, e⟩
            by_cases q : j = x
            · right; rw [← e, q, HS.out]
            · left; exact ⟨j, by omega, e⟩
        have hF0 : F.length ≤ 512 := by rw [HFE.out]; exact Nat.le_trans (fsL_len _ _ _) (by omega)
        have HF0 : Hid (F.length ≤ 512) := hF0
        obtain ⟨fn, hfn⟩ : ∃ fn, F.length = fn := ⟨_, rfl⟩
        have HFN : Hid (F.length = fn) := hfn
        obtain ⟨hi0, hz0, hz1, hz2⟩ := HI0.out
        clear hX1 hfn hF0
        go_wp2_with (first | (refine os_load rfl rfl HX.out.met rfl ?_) | (refine os_load rfl rfl HX1.out.met rfl ?_) | (go_at_call 17; refine (HHS.out _).mono ?_; rintro e y1 ⟨rfl, hb⟩; have HX1 : Hid (XI w1 lo ab cb gs mb ga ob (auC A (some ⟨gn, on, none⟩) cn aa ca) A M N L (x * A.k.toNat) S X F fa fc y1) := HX.out.call hb; have HLO1 : Hid (lo ≤ y1.heap.size) := Nat.le_trans HLO.out hb.size; clear hb) | (go_at_call 50; refine (HWI.out _).mono ?_; rintro e y2 ⟨rfl, hb⟩; have HX2 : Hid (XI w1 lo ab cb gs mb ga ob (auC A (some ⟨gn, on, none⟩) cn aa ca) A M N L (x * A.k.toNat) S X F fa fc y2) := HX1.out.call hb; have HLO2 : Hid (lo ≤ y2.heap.size) := Nat.le_trans HLO1.out hb.size; have hst := st_setRowO (g := word X1) HX2.out.met; obtain ⟨y3, hy3⟩ : ∃ y3, y2.setRow mb (cellsF (word X1)) = y3 := ⟨_, rfl⟩; rw [hy3] at hst; have HX3 : Hid (XI w1 lo ab cb gs mb ga ob (auC A (some ⟨gn, on, none⟩) cn aa ca) A M N L (x * A.k.toNat) S X1 F fa fc y3) := (by show XI _ _ _ _ _ _ _ _ _ _ _ _ _ _ _ _ _ _ _ _; rw [← hy3]; exact HX2.out.meet X1); have HLO3 : Hid (lo ≤ y3.heap.size) := (by show _ ≤ _; rw [← hy3, size_setRow]; exact HLO2.out); have hc3 : y3.cell? ⟨cb, 3, none⟩ = some (.slice fa F.length fc) := cell_at HX3.out.box rfl; clear hb hy3) | (at_builtin; refine wpList_append_own_at _ rfl _ _ 23 rfl lo 3 i0 (.int .i64 0) 1 8 Try.underlying23 hi0 hz0 hz1 hz2 rfl (by decide) _ _ _ rfl (World.ownsRow.alloc HX3.out.fr _) ⟨y3.heap.size, 0, none⟩ 1 1 [.int .i64 (x : Int)] rfl rfl (cell_one_new _ _ _) (by intro u hu; simp at hu; subst hu; rfl) (by have := HF0.out; unfold maxLen; omega) (by have := HF0.out; have := HLO3.out; omega) (by have := HLO3.out; have := HF0.out; simp; omega) ?_; intro v' w4 hown' hgrow _ hloc; obtain ⟨fa4, fc4, hsh⟩ := own_shape hown'; subst hsh; have hap := HX3.out.append (F' := F ++ [x]) (n' := F.length + 1) (by simp) HLO3.out (by rw [nC_append]; exact hown') hgrow; have hc4 := cell_at hap.1 (j := 3) rfl; have hf4 := frz_at (o := 3) hap.1; have HX4 : Hid (XI w1 lo ab cb gs mb ga ob (auC A (some ⟨gn, on, none⟩) cn aa ca) A M N L (x * A.k.toNat) S X1 (F ++ [x]) fa4 fc4 (w4.setCell ⟨cb, 3, none⟩ (.slice fa4 (F.length + 1) fc4))) := hap.2; have HLO4 : Hid (lo ≤ (w4.setCell ⟨cb, 3, none⟩ (.slice fa4 (F.length + 1) fc4)).heap.size) := (by have q := (Only.grown (S := fun _ => True) hgrow (fun _ _ => trivial)).size; rw [World.size_alloc] at q; have q2 := HLO3.out; show lo ≤ _; rw [size_setO]; omega); have hk0 : (w4.setCell ⟨cb, 3, none⟩ (.slice fa4 (F.length + 1) fc4)).cell? ⟨ab, 0, none⟩ = some (.int .i64 A.k) := HX4.out.row.cell 0; clear hown' hgrow hloc hap))
        rw [← HF1.out] at HX4
        clear hk0 hc4 hf4 hst hc3 hcs hc2 HX HX1 HX2 HX3 HLO1 HLO2 HLO3 HLO HFB HBE HXB HFE hi0 hz0 hz1 hz2
        go_loopw [58] (fun vl wz => ∃ (l : Nat) (S' : List Nat), vl = .int .i64 (l : Nat) ∧ l ≤ A.k.toNat ∧ XI w1 lo ab cb gs mb ga ob (auC A (some ⟨gn, on, none⟩) cn aa ca) A M N L (x * A.k.toNat + l) S' X1 (fsL A N (x + 1)) fa4 fc4 wz ∧ lo ≤ wz.heap.size) (fun vl _ => A.k.toNat - (Go.RowKit.intOf vl).toNat)
        case atStart => exact ⟨0, S, rfl, Nat.zero_le _, by rw [Nat.add_zero]; exact HX4.out, HLO4.out⟩
        case round =>
          clear HX4 HLO4
          obtain ⟨l, S', rfl, hl, hxi, hlo⟩ := hrel
          have HXR : Hid (XI w1 lo ab cb gs mb ga ob (auC A (some ⟨gn, on, none⟩) cn aa ca) A M N L (x * A.k.toNat + l) S' X1 (fsL A N (x + 1)) fa4 fc4 wr) := hxi
          have HLOR : Hid (lo ≤ wr.heap.size) := hlo
          clear hxi hlo
          have hks := HMON.out.G.ks
          by_cases hlk : l < A.k.toNat
          · have hlI : (l : Int) < A.k := by omega
            have hld : decide ((l : Int) < A.k) = true := decide_eq_true hlI
            have HLK : Hid (l < A.k.toNat) := hlk
            have hl8 : l < 8 := by omega
            obtain ⟨xx, hxx⟩ : ∃ xx, 97 + l = xx := ⟨_, rfl⟩
            have hu1 : IntKind.u8.wrap (l : Int) = (l : Nat) := by rw [IntKind.wrap_u8]; omega
            have hu2 : IntKind.u8.wrap (97 + (l : Int)) = (xx : Nat) := by rw [IntKind.wrap_u8]; omega
            obtain ⟨y, hy⟩ : ∃ y, N.getD (x * A.k.toNat + l) 0 = y := ⟨_, rfl⟩
            obtain ⟨_, _, hm2, hm3⟩ := HMON.out.at HXL.out hlk
            rw [hy] at hm2
            have HYL : Hid (y < M.length) := (List.getElem?_eq_some_iff.1 hm2).1
            have HNY : Hid (N[x * A.k.toNat + l]? = some y) := by
              show _ = _
              rw [← hy, List.getD_eq_getElem?_getD, List.getElem?_eq_getElem hm3]
              rfl
            obtain ⟨d, hd⟩ : ∃ d, dN A s l = d := ⟨_, rfl⟩
            have HSD : Hid (stO A N y = d) := by show _ = _; rw [← hy, stO_right HMON.out HXL.out hlk, HS.out, hd]
            have a1 := HMON.out.G.at HSL.out.1 hlI
            rw [hd] at a1
            obtain ⟨p, hp⟩ : ∃ p, s * A.k.toNat + l = p := ⟨_, rfl⟩
            obtain ⟨m1, hm1⟩ : ∃ p, s * A.k.toNat = p := ⟨_, rfl⟩
            rw [hp] at a1
            have hxl : A.nx.length ≤ 512 := by
              have G := HMON.out.G
              have h64 := HMON.out.n64
              have h1 : (A.ac.length : Int) * A.k ≤ 64 * 8 := Int.mul_le_mul (by omega) G.k8 (by have := G.k1; omega) (by omega)
              have := G.len
              omega
            have q1 : ((s : Nat) : Int) * A.k = (m1 : Nat) := by rw [← hks.2.2, ← hm1]; push_cast; rfl
            have hw1 : IntKind.i64.wrap ((s : Int) * A.k) = (m1 : Nat) := by rw [q1, IntKind.wrap_i64]; omega
            have hw2 : IntKind.i64.wrap ((m1 : Int) + (l : Int)) = (p : Nat) := by rw [IntKind.wrap_i64]; omega
            have hi1 : (p : Int) < A.nx.length := by omega
            have hyl : y < M.length := HYL.out
            have hiy : (y : Int) < M.length := by omega
            have HNX : Hid (∀ u, XI w1 lo ab cb gs mb ga ob (auC A (some ⟨gn, on, none⟩) cn aa ca) A M N L (x * A.k.toNat + l) S' X1 (fsL A N (x + 1)) fa4 fc4 u → u.cell? ⟨gn, on + p, none⟩ = some (.int .i64 (d : Nat))) := fun u hu => by
              obtain ⟨_, _, e, _, q⟩ := (HNX1.out.stay hu.bel).int (i := p) a1.1
              simp only [Option.some.injEq, Addr.mk.injEq, and_true] at e
              obtain ⟨rfl, rfl⟩ := e
              rw [a1.2.1] at q
              exact q
            have HRT : Hid (Calls Try.prog 58 #[.pointer (some ⟨ob, 0, none⟩), .int .i64 (x : Nat), .int .u8 (xx : Nat)] wr fun e w' => e = .returned (.tuple #[.int .i64 (y : Nat), .int .i64 0]) ∧ Below wr.heap.size wr w') := by
              have q := mright_ok (HM1.out.below HXR.out.bel) x l xx HXL.out hlk hxx
              rwa [hy] at q
            clear hxx hy hm2 hm3 hd hp hm1 a1 q1 hxl hl hlk hyl
            go_wp2_with fail
            refine HRT.out.mono ?_
            rintro e y2 ⟨rfl, hb⟩
            have HX2 : Hid (XI w1 lo ab cb gs mb ga ob (auC A (some ⟨gn, on, none⟩) cn aa ca) A M N L (x * A.k.toNat + l) S' X1 (fsL A N (x + 1)) fa4 fc4 y2) := HXR.out.call hb
            have HLO2 : Hid (lo ≤ y2.heap.size) := Nat.le_trans HLOR.out hb.size
            clear hb hks
            go_upto_region 15 with fail
            obtain ⟨y0, hy0⟩ : ∃ y0, y0 = y2.drew := ⟨_, rfl⟩
            have HX0 : Hid (XI w1 lo ab cb gs mb ga ob (auC A (some ⟨gn, on, none⟩) cn aa ca) A M N L (x * A.k.toNat + l) S' X1 (fsL A N (x + 1)) fa4 fc4 y0) := by show XI _ _ _ _ _ _ _ _ _ _ _ _ _ _ _ _ _ _ _ _; rw [hy0]; exact HX2.out.call (Below.refl _ _).drew
            have HLO0 : Hid (lo ≤ y0.heap.size) := by show _ ≤ _; rw [hy0]; exact HLO2.out
            have HXN : Hid (XI w1 lo ab cb gs mb ga ob (auC A (some ⟨gn, on, none⟩) cn aa ca) A M N L (x * A.k.toNat + (l + 1)) (S'.set y d) X1 (fsL A N (x + 1)) fa4 fc4 (y0.setCell ⟨gs, y, none⟩ (.int .i64 (d : Nat)))) := HX0.out.set HYL.out HNY.out HSD.out
            have HLON : Hid (lo ≤ (y0.setCell ⟨gs, y, none⟩ (.int .i64 (d : Nat))).heap.size) := by show _ ≤ _; rw [size_setO]; exact HLO0.out
            have HGC : Hid (y0.cell? ⟨gs, y, none⟩ = some (.int .i64 (S'.getD y 0 : Nat))) := HX0.out.st.cell (by rw [HX0.out.len]; exact HYL.out)
            have HGF : Hid (y0.frozen? ⟨gs, y, none⟩ = false) := HX0.out.st.frz
            refine wp_region_L 16 (fun u => XI w1 lo ab cb gs mb ga ob (auC A (some ⟨gn, on, none⟩) cn aa ca) A M N L (x * A.k.toNat + l) S' X1 (fsL A N (x + 1)) fa4 fc4 u) (by kernel_rfl) (by rw [← hy0]; exact HX0.out) (fun hH0 => ?_)
            rw [← hy0] at hH0 ⊢
            clear hy0
            refine wpAnyL_take (i := 0) (oi := { dst := some 70, op := Go.Op.move (Go.Operand.tmp 4), type := 75, pos := "contexts.go:32", after := #[], guard := none }) (v := ?_) rfl (by kernel_rfl) (by kernel_rfl) (by decide) (by kernel_rfl) (by kernel_rfl) (by kernel_rfl) (fun _ _ _ h => h) (Or.inl ⟨by rfl, ?_⟩) (by assumption) ?_
            rotate_left
            · intro w' hS; go_simp; (try with_reducible rfl)
            simp only [Act.put, List.setIfInBounds_toArray, List.set_cons_zero, List.set_cons_succ]
            refine wpAnyL_take (i := 1) (oi := { dst := some 71, op := Go.Op.nilCheck (Go.Operand.tmp 70), type := 0, pos := "contexts.go:32", after := #[{ on := 0, ground := Go.Ground.data }], guard := none }) (v := ?_) rfl (by kernel_rfl) (by kernel_rfl) (by decide) (by kernel_rfl) (by kernel_rfl) (by kernel_rfl) (fun _ _ _ h => h) (Or.inl ⟨by rfl, ?_⟩) (by assumption) ?_
            rotate_left
            · intro w' hS; go_simp; (try with_reducible rfl)
            simp only [Act.put, List.setIfInBounds_toArray, List.set_cons_zero, List.set_cons_succ]
            refine wpAnyL_take (i := 2) (oi := { dst := some 72, op := Go.Op.fieldAddr 100 (Go.Operand.tmp 71) 2, type := 0, pos := "contexts.go:32", after := #[{ on := 1, ground := Go.Ground.data }], guard := none }) (v := ?_) rfl (by kernel_rfl) (by kernel_rfl) (by decide) (by kernel_rfl) (by kernel_rfl) (by kernel_rfl) (fun _ _ _ h => h) (Or.inl ⟨by rfl, ?_⟩) (by assumption) ?_
            rotate_left
            · intro w' hS; go_simp; (try with_reducible rfl)
            simp only [Act.put, List.setIfInBounds_toArray, List.set_cons_zero, List.set_cons_succ]
            refine wpAnyL_take (i := 3) (oi := { dst := some 73, op := Go.Op.load 23 (Go.Operand.tmp 72), type := 23, pos := "contexts.go:32", after := #[{ on := 2, ground := Go.Ground.data }], guard := none }) (v := .slice (some ⟨gs, 0, none⟩) M.length M.length) rfl (by kernel_rfl) (by kernel_rfl) (by decide) (by kernel_rfl) (by kernel_rfl) (by kernel_rfl) (fun _ _ _ h => h) (Or.inl ⟨by rfl, ?_⟩) (by assumption) ?_
            · intro w' hS; have hz : w'.cell? ⟨cb, 2, none⟩ = some (.slice (some ⟨gs, 0, none⟩) M.length M.length) := cell_at hS.box rfl; go_simp
            simp only [Act.put, List.setIfInBounds_toArray, List.set_cons_zero, List.set_cons_succ]
            refine wpAnyL_take (i := 4) (oi := { dst := some 74, op := Go.Op.move (Go.Operand.tmp 9), type := 3, pos := "contexts.go:32", after := #[], guard := none }) (v := ?_) rfl (by kernel_rfl) (by kernel_rfl) (by decide) (by kernel_rfl) (by kernel_rfl) (by kernel_rfl) (fun _ _ _ h => h) (Or.inl ⟨by rfl, ?_⟩) (by assumption) ?_
            rotate_left
            · intro w' hS; go_simp; (try with_reducible rfl)
            simp only [Act.put, List.setIfInBounds_toArray, List.set_cons_zero, List.set_cons_succ]
            refine wpAnyL_take (i := 5) (oi := { dst := some 75, op := Go.Op.fieldAddr 26 (Go.Operand.tmp 3) 1, type := 0, pos := "contexts.go:32", after := #[], guard := none }) (v := ?_) rfl (by kernel_rfl) (by kernel_rfl) (by decide) (by kernel_rfl) (by kernel_rfl) (by kernel_rfl) (fun _ _ _ h => h) (Or.inl ⟨by rfl, ?_⟩) (by assumption) ?_
            rotate_left
            · intro w' hS; go_simp; (try with_reducible rfl)
            simp only [Act.put, List.setIfInBounds_toArray, List.set_cons_zero, List.set_cons_succ]
            refine wpAnyL_take (i := 6) (oi := { dst := some 76, op := Go.Op.load 23 (Go.Operand.tmp 75), type := 23, pos := "contexts.go:32", after := #[{ on := 5, ground := Go.Ground.data }], guard := none }) (v := .slice (some ⟨gn, on, none⟩) A.nx.length cn) rfl (by kernel_rfl) (by kernel_rfl) (by decide) (by kernel_rfl) (by kernel_rfl) (by kernel_rfl) (fun _ _ _ h => h) (Or.inl ⟨by rfl, ?_⟩) (by assumption) ?_
            · intro w' hS; have hz : w'.cell? ⟨ab, 1, none⟩ = some (.slice (some ⟨gn, on, none⟩) A.nx.length cn) := hS.row.cell 1; go_simp
            simp only [Act.put, List.setIfInBounds_toArray, List.set_cons_zero, List.set_cons_succ]
            refine wpAnyL_take (i := 7) (oi := { dst := some 77, op := Go.Op.move (Go.Operand.tmp 7), type := 3, pos := "contexts.go:32", after := #[], guard := none }) (v := ?_) rfl (by kernel_rfl) (by kernel_rfl) (by decide) (by kernel_rfl) (by kernel_rfl) (by kernel_rfl) (fun _ _ _ h => h) (Or.inl ⟨by rfl, ?_⟩) (by assumption) ?_
            rotate_left
            · intro w' hS; go_simp; (try with_reducible rfl)
            simp only [Act.put, List.setIfInBounds_toArray, List.set_cons_zero, List.set_cons_succ]
            refine wpAnyL_take (i := 8) (oi := { dst := some 78, op := Go.Op.fieldAddr 26 (Go.Operand.tmp 3) 0, type := 0, pos := "contexts.go:32", after := #[], guard := none }) (v := ?_) rfl (by kernel_rfl) (by kernel_rfl) (by decide) (by kernel_rfl) (by kernel_rfl) (by kernel_rfl) (fun _ _ _ h => h) (Or.inl ⟨by rfl, ?_⟩) (by assumption) ?_
            rotate_left
            · intro w' hS; go_simp; (try with_reducible rfl)
            simp only [Act.put, List.setIfInBounds_toArray, List.set_cons_zero, List.set_cons_succ]
            refine wpAnyL_take (i := 9) (oi := { dst := some 79, op := Go.Op.load 3 (Go.Operand.tmp 78), type := 3, pos := "contexts.go:32", after := #[{ on := 8, ground := Go.Ground.data }], guard := none }) (v := .int .i64 A.k) rfl (by kernel_rfl) (by kernel_rfl) (by decide) (by kernel_rfl) (by kernel_rfl) (by kernel_rfl) (fun _ _ _ h => h) (Or.inl ⟨by rfl, ?_⟩) (by assumption) ?_
            · intro w' hS; have hz : w'.cell? ⟨ab, 0, none⟩ = some (.int .i64 A.k) := hS.row.cell 0; go_simp
            simp only [Act.put, List.setIfInBounds_toArray, List.set_cons_zero, List.set_cons_succ]
            refine wpAnyL_take (i := 10) (oi := { dst := some 80, op := Go.Op.binOp Go.BinOp.mul 3 (Go.Operand.tmp 77) (Go.Operand.tmp 79) 3, type := 3, pos := "contexts.go:32", after := #[{ on := 7, ground := Go.Ground.data }, { on := 9, ground := Go.Ground.data }], guard := none }) (v := ?_) rfl (by kernel_rfl) (by kernel_rfl) (by decide) (by kernel_rfl) (by kernel_rfl) (by kernel_rfl) (fun _ _ _ h => h) (Or.inl ⟨by rfl, ?_⟩) (by assumption) ?_
            rotate_left
            · intro w' hS; go_simp; (try with_reducible rfl)
            simp only [Act.put, List.setIfInBounds_toArray, List.set_cons_zero, List.set_cons_succ]
            refine wpAnyL_take (i := 11) (oi := { dst := some 81, op := Go.Op.move (Go.Operand.tmp 8), type := 3, pos := "contexts.go:32", after := #[], guard := none }) (v := ?_) rfl (by kernel_rfl) (by kernel_rfl) (by decide) (by kernel_rfl) (by kernel_rfl) (by kernel_rfl) (fun _ _ _ h => h) (Or.inl ⟨by rfl, ?_⟩) (by assumption) ?_
            rotate_left
            · intro w' hS; go_simp; (try with_reducible rfl)
            simp only [Act.put, List.setIfInBounds_toArray, List.set_cons_zero, List.set_cons_succ]
            refine wpAnyL_take (i := 12) (oi := { dst := some 82, op := Go.Op.binOp Go.BinOp.add 3 (Go.Operand.tmp 80) (Go.Operand.tmp 81) 3, type := 3, pos := "contexts.go:32", after := #[{ on := 10, ground := Go.Ground.data }, { on := 11, ground := Go.Ground.data }], guard := none }) (v := ?_) rfl (by kernel_rfl) (by kernel_rfl) (by decide) (by kernel_rfl) (by kernel_rfl) (by kernel_rfl) (fun _ _ _ h => h) (Or.inl ⟨by rfl, ?_⟩) (by assumption) ?_
            rotate_left
            · intro w' hS; go_simp; (try with_reducible rfl)
            simp only [Act.put, List.setIfInBounds_toArray, List.set_cons_zero, List.set_cons_succ]
            refine wpAnyL_take (i := 13) (oi := { dst := some 83, op := Go.Op.indexAddr 23 (Go.Operand.tmp 76) (Go.Operand.tmp 82), type := 0, pos := "contexts.go:32", after := #[{ on := 6, ground := Go.Ground.data }, { on := 12, ground := Go.Ground.data }], guard := none }) (v := ?_) rfl (by kernel_rfl) (by kernel_rfl) (by decide) (by kernel_rfl) (by kernel_rfl) (by kernel_rfl) (fun _ _ _ h => h) (Or.inl ⟨by rfl, ?_⟩) (by assumption) ?_
            rotate_left
            · intro w' hS; go_simp; (try with_reducible rfl)
            simp only [Act.put, List.setIfInBounds_toArray, List.set_cons_zero, List.set_cons_succ]
            refine wpAnyL_take (i := 14) (oi := { dst := some 84, op := Go.Op.load 3 (Go.Operand.tmp 83), type := 3, pos := "contexts.go:32", after := #[{ on := 13, ground := Go.Ground.data }], guard := none }) (v := .int .i64 (d : Nat)) rfl (by kernel_rfl) (by kernel_rfl) (by decide) (by kernel_rfl) (by kernel_rfl) (by kernel_rfl) (fun _ _ _ h => h) (Or.inl ⟨by rfl, ?_⟩) (by assumption) ?_
            · intro w' hS; have hz := HNX.out w' hS; go_simp
            simp only [Act.put, List.setIfInBounds_toArray, List.set_cons_zero, List.set_cons_succ]
            refine wpAnyL_take (i := 15) (oi := { dst := some 85, op := Go.Op.indexAddr 23 (Go.Operand.tmp 73) (Go.Operand.tmp 74), type := 0, pos := "contexts.go:32", after := #[{ on := 3, ground := Go.Ground.data }, { on := 4, ground := Go.Ground.data }, { on := 0, ground := Go.Ground.phase }, { on := 1, ground := Go.Ground.phase }, { on := 2, ground := Go.Ground.phase }, { on := 3, ground := Go.Ground.phase }, { on := 4, ground := Go.Ground.phase }, { on := 5, ground := Go.Ground.phase }, { on := 6, ground := Go.Ground.phase }, { on := 7, ground := Go.Ground.phase }, { on := 8, ground := Go.Ground.phase }, { on := 9, ground := Go.Ground.phase }, { on := 10, ground := Go.Ground.phase }, { on := 11, ground := Go.Ground.phase }, { on := 12, ground := Go.Ground.phase }, { on := 13, ground := Go.Ground.phase }, { on := 14, ground := Go.Ground.phase }], guard := none }) (v := ?_) rfl (by kernel_rfl) (by kernel_rfl) (by decide) (by kernel_rfl) (by kernel_rfl) (by kernel_rfl) (fun _ _ _ h => h) (Or.inl ⟨by rfl, ?_⟩) (by assumption) ?_
            rotate_left
            · intro w' hS; go_simp; (try with_reducible rfl)
            simp only [Act.put, List.setIfInBounds_toArray, List.set_cons_zero, List.set_cons_succ]
            refine wpAnyL_ready (rs := [16]) (by kernel_rfl) (by simp) ?_
            refine AllReadyL.last rfl (fun KQ hK => ?_)
            have hc := HGC.out
            have hf := HGF.out
            go_simp
            refine hK.out _ _ ?_
            clear hc hf
            clear hK KQ
            refine wpAnyL_done (by kernel_rfl) ?_ _
            go_wp2_with fail
            go_roundw
            case rel => exact ⟨l + 1, _, by go_num, HLK.out, HXN.out, HLON.out⟩
            case measure => have := HLK.out; simp [Go.RowKit.intOf]; omega
          · have hlI : ¬ (l : Int) < A.k := by omega
            have hld : decide ((l : Int) < A.k) = false := decide_eq_false hlI
            have HLE : Hid (x * A.k.toNat + l = (x + 1) * A.k.toNat) := by show _ = _; rw [Nat.add_mul, Nat.one_mul]; omega
            clear hlk hl hks
            go_wp2_with fail
            go_roundw
            case rel => exact ⟨x + 1, S', X1, fsL A N (x + 1), fa4, fc4, by go_num, HXL.out, by rw [← HLE.out]; exact HXR.out, rfl, HXB1.out, HLOR.out⟩
            case measure => have := HXL.out; simp [Go.RowKit.intOf]; omega
    · have hxI : ¬ (x : Int) < M.length := by omega
      have hxd : decide ((x : Int) < M.length) = false := decide_eq_false hxI
      have HE : Hid (x = M.length) := by show _ = _; omega
      have hF := HFE.out
      rw [HE.out] at hF
      subst hF
      have HSL : Hid (S = stL A N M.length) := by
        have hl := HX.out.len
        apply List.ext_getElem?
        intro y
        by_cases hy : y < M.length
        · have e := HX.out.ok y hy (by
            rcases found_st HMON.out hy with q | ⟨p, hp, hq⟩
            · exact .inl q
            · exact .inr ⟨p, by rw [HE.out]; exact Nat.lt_of_lt_of_le hp (Nat.mul_le_mul_right _ (by omega)), hq⟩)
          rw [List.getElem?_eq_getElem (by omega), List.getElem?_eq_getElem (by rw [stL_len]; exact hy)]
          have e2 := stL_at A N hy
          rw [List.getD_eq_getElem?_getD, List.getElem?_eq_getElem (by omega)] at e
          rw [List.getD_eq_getElem?_getD, List.getElem?_eq_getElem (by rw [stL_len]; exact hy)] at e2
          simp at e e2
          rw [e, e2]
        · rw [List.getElem?_eq_none (by omega), List.getElem?_eq_none (by rw [stL_len]; omega)]
      clear hlt hx hn5
      go_wp2_with fail
      rw [← HQE.out]
      exact ⟨cb, L, ga, gs, fa, fc, rfl, ⟨HX.out.box, HM1.out.below HX.out.bel, HX.out.ls, HAV.out, by rw [← HSL.out]; exact HX.out.st, own_sr HX.out.fr⟩, go_on HB1.out HX.out.bel⟩
end Go.Proofs.Ytneiegbodnalbaa

namespace Go.Proofs.Ytneiegbodnalbaa
open Go Go.RowKit Go.Lib Go.Maps
set_option linter.unusedVariables false
attribute [-instance] List.instBEq instBEqProd

set_option maxHeartbeats 4000000 in
set_option maxRecDepth 100000 in
theorem unlike_any {w : World} {cb ob : Nat} {A : Aut} {M : List (List Nat)} {N L : List Nat} {ga gs : Nat} {fa : Option Addr} {fc : Nat} (h : CX w cb ob A M N L ga gs fa fc) (s t : Nat) (hs : s < A.ac.length) (ht : t < A.ac.length) :
    Calls Try.prog 39 #[.pointer (some ⟨cb, 0, none⟩), .int .i64 (s : Nat), .int .i64 (t : Nat)] w fun e w' => e = .returned (.bool (unlB L s t)) ∧ Below w.heap.size w w' := by
  have h64 := h.mo.mon.n64
  obtain ⟨X, hX⟩ : ∃ X, L.getD s 0 = X := ⟨_, rfl⟩
  obtain ⟨Y, hY⟩ : ∃ Y, L.getD t 0 = Y := ⟨_, rfl⟩
  have HFX : Hid (Fits X ∧ Fits Y) := ⟨by rw [← hX]; exact h.av.fits h64 s, by rw [← hY]; exact h.av.fits h64 t⟩
  have HS : Hid (w.drew.cell? ⟨cb, 1, none⟩ = some (.slice (some ⟨ga, 0, none⟩) A.ac.length A.ac.length) ∧ (loadVar 55 ⟨ga, s * 8, none⟩).run Try.prog w.drew = .ok (.agg (cellsF (word X))) w.drew ∧ (loadVar 55 ⟨ga, t * 8, none⟩).run Try.prog w.drew = .ok (.agg (cellsF (word Y))) w.drew) := by
    refine ⟨cell_at h.box rfl, ?_, ?_⟩
    · rw [← hX]; exact (h.ls.keep (w' := w.drew) rfl).loadS (by rw [h.av.len]; exact hs)
    · rw [← hY]; exact (h.ls.keep (w' := w.drew) rfl).loadS (by rw [h.av.len]; exact ht)
  have HE : Hid (unlB L s t = ! decide (X = Y)) := by show _ = _; unfold unlB; rw [hX, hY]
  have hsI : (s : Int) < A.ac.length := by omega
  have htI : (t : Int) < A.ac.length := by omega
  clear h hX hY hs ht h64
  go_enter Try.func39, Try.ntmps39
  go_upto_region 1 with fail
  refine wp_region_held_drew (S := fun y => y.cell? ⟨cb, 1, none⟩ = some (.slice (some ⟨ga, 0, none⟩) A.ac.length A.ac.length) ∧ (loadVar 55 ⟨ga, s * 8, none⟩).run Try.prog y = .ok (.agg (cellsF (word X))) y ∧ (loadVar 55 ⟨ga, t * 8, none⟩).run Try.prog y = .ok (.agg (cellsF (word Y))) y) (by kernel_rfl) HS.out (fun hH0 => ?_)
  refine wpAnyH_take (i := 0) (oi := { dst := some 7, op := Go.Op.move (Go.Operand.tmp 0), type := 75, pos := "contexts.go:56", after := #[], guard := none }) (v := ?_) rfl (by kernel_rfl) (by kernel_rfl) (by kernel_rfl) (fun _ _ _ h => h) (Or.inl ⟨by rfl, ?_⟩) (by assumption) ?_
  rotate_left
  · intro w' hS; go_simp; (try with_reducible rfl)
  simp only [Act.put, List.setIfInBounds_toArray, List.set_cons_zero, List.set_cons_succ]
  refine wpAnyH_take (i := 1) (oi := { dst := some 8, op := Go.Op.nilCheck (Go.Operand.tmp 7), type := 0, pos := "contexts.go:56", after := #[{ on := 0, ground := Go.Ground.data }], guard := none }) (v := ?_) rfl (by kernel_rfl) (by kernel_rfl) (by kernel_rfl) (fun _ _ _ h => h) (Or.inl ⟨by rfl, ?_⟩) (by assumption) ?_
  rotate_left
  · intro w' hS; go_simp; (try with_reducible rfl)
  simp only [Act.put, List.setIfInBounds_toArray, List.set_cons_zero, List.set_cons_succ]
  refine wpAnyH_take (i := 2) (oi := { dst := some 9, op := Go.Op.fieldAddr 100 (Go.Operand.tmp 8) 1, type := 0, pos := "contexts.go:56", after := #[{ on := 1, ground := Go.Ground.data }], guard := none }) (v := ?_) rfl (by kernel_rfl) (by kernel_rfl) (by kernel_rfl) (fun _ _ _ h => h) (Or.inl ⟨by rfl, ?_⟩) (by assumption) ?_
  rotate_left
  · intro w' hS; go_simp; (try with_reducible rfl)
  simp only [Act.put, List.setIfInBounds_toArray, List.set_cons_zero, List.set_cons_succ]
  refine wpAnyH_take (i := 3) (oi := { dst := some 10, op := Go.Op.load 41 (Go.Operand.tmp 9), type := 41, pos := "contexts.go:56", after := #[{ on := 2, ground := Go.Ground.data }], guard := none }) (v := .slice (some ⟨ga, 0, none⟩) A.ac.length A.ac.length) rfl (by kernel_rfl) (by kernel_rfl) (by kernel_rfl) (fun _ _ _ h => h) (Or.inl ⟨by rfl, ?_⟩) (by assumption) ?_
  · intro w' hS; have hz := hS.1; go_simp
  simp only [Act.put, List.setIfInBounds_toArray, List.set_cons_zero, List.set_cons_succ]
  refine wpAnyH_take (i := 4) (oi := { dst := some 11, op := Go.Op.move (Go.Operand.tmp 1), type := 3, pos := "contexts.go:56", after := #[], guard := none }) (v := ?_) rfl (by kernel_rfl) (by kernel_rfl) (by kernel_rfl) (fun _ _ _ h => h) (Or.inl ⟨by rfl, ?_⟩) (by assumption) ?_
  rotate_left
  · intro w' hS; go_simp; (try with_reducible rfl)
  simp only [Act.put, List.setIfInBounds_toArray, List.set_cons_zero, List.set_cons_succ]
  refine wpAnyH_take (i := 5) (oi := { dst := some 12, op := Go.Op.indexAddr 41 (Go.Operand.tmp 10) (Go.Operand.tmp 11), type := 0, pos := "contexts.go:56", after := #[{ on := 3, ground := Go.Ground.data }, { on := 4, ground := Go.Ground.data }], guard := none }) (v := ?_) rfl (by kernel_rfl) (by kernel_rfl) (by kernel_rfl) (fun _ _ _ h => h) (Or.inl ⟨by rfl, ?_⟩) (by assumption) ?_
  rotate_left
  · intro w' hS; go_simp; (try with_reducible rfl)
  simp only [Act.put, List.setIfInBounds_toArray, List.set_cons_zero, List.set_cons_succ]
  refine wpAnyH_take (i := 6) (oi := { dst := some 13, op := Go.Op.load 55 (Go.Operand.tmp 12), type := 55, pos := "contexts.go:56", after := #[{ on := 5, ground := Go.Ground.data }], guard := none }) (v := .agg (cellsF (word X))) rfl (by kernel_rfl) (by kernel_rfl) (by kernel_rfl) (fun _ _ _ h => h) (Or.inl ⟨by rfl, ?_⟩) (by assumption) ?_
  · intro w' hS; exact ex_load_at (ad := ⟨ga, s * 8, none⟩) rfl rfl hS.2.1
  simp only [Act.put, List.setIfInBounds_toArray, List.set_cons_zero, List.set_cons_succ]
  refine wpAnyH_take (i := 7) (oi := { dst := some 14, op := Go.Op.move (Go.Operand.tmp 0), type := 75, pos := "contexts.go:56", after := #[], guard := none }) (v := ?_) rfl (by kernel_rfl) (by kernel_rfl) (by kernel_rfl) (fun _ _ _ h => h) (Or.inl ⟨by rfl, ?_⟩) (by assumption) ?_
  rotate_left
  · intro w' hS; go_simp; (try with_reducible rfl)
  simp only [Act.put, List.setIfInBounds_toArray, List.set_cons_zero, List.set_cons_succ]
  refine wpAnyH_take (i := 8) (oi := { dst := some 15, op := Go.Op.nilCheck (Go.Operand.tmp 14), type := 0, pos := "contexts.go:56", after := #[{ on := 7, ground := Go.Ground.data }], guard := none }) (v := ?_) rfl (by kernel_rfl) (by kernel_rfl) (by kernel_rfl) (fun _ _ _ h => h) (Or.inl ⟨by rfl, ?_⟩) (by assumption) ?_
  rotate_left
  · intro w' hS; go_simp; (try with_reducible rfl)
  simp only [Act.put, List.setIfInBounds_toArray, List.set_cons_zero, List.set_cons_succ]
  refine wpAnyH_take (i := 9) (oi := { dst := some 16, op := Go.Op.fieldAddr 100 (Go.Operand.tmp 15) 1, type := 0, pos := "contexts.go:56", after := #[{ on := 8, ground := Go.Ground.data }], guard := none }) (v := ?_) rfl (by kernel_rfl) (by kernel_rfl) (by kernel_rfl) (fun _ _ _ h => h) (Or.inl ⟨by rfl, ?_⟩) (by assumption) ?_
  rotate_left
  · intro w' hS; go_simp; (try with_reducible rfl)
  simp only [Act.put, List.setIfInBounds_toArray, List.set_cons_zero, List.set_cons_succ]
  refine wpAnyH_take (i := 10) (oi := { dst := some 17, op := Go.Op.load 41 (Go.Operand.tmp 16), type := 41, pos := "contexts.go:56", after := #[{ on := 9, ground := Go.Ground.data }], guard := none }) (v := .slice (some ⟨ga, 0, none⟩) A.ac.length A.ac.length) rfl (by kernel_rfl) (by kernel_rfl) (by kernel_rfl) (fun _ _ _ h => h) (Or.inl ⟨by rfl, ?_⟩) (by assumption) ?_
  · intro w' hS; have hz := hS.1; go_simp
  simp only [Act.put, List.setIfInBounds_toArray, List.set_cons_zero, List.set_cons_succ]
  refine wpAnyH_take (i := 11) (oi := { dst := some 18, op := Go.Op.move (Go.Operand.tmp 2), type := 3, pos := "contexts.go:56", after := #[], guard := none }) (v := ?_) rfl (by kernel_rfl) (by kernel_rfl) (by kernel_rfl) (fun _ _ _ h => h) (Or.inl ⟨by rfl, ?_⟩) (by assumption) ?_
  rotate_left
  · intro w' hS; go_simp; (try with_reducible rfl)
  simp only [Act.put, List.setIfInBounds_toArray, List.set_cons_zero, List.set_cons_succ]
  refine wpAnyH_take (i := 12) (oi := { dst := some 19, op := Go.Op.indexAddr 41 (Go.Operand.tmp 17) (Go.Operand.tmp 18), type := 0, pos := "contexts.go:56", after := #[{ on := 10, ground := Go.Ground.data }, { on := 11, ground := Go.Ground.data }], guard := none }) (v := ?_) rfl (by kernel_rfl) (by kernel_rfl) (by kernel_rfl) (fun _ _ _ h => h) (Or.inl ⟨by rfl, ?_⟩) (by assumption) ?_
  rotate_left
  · intro w' hS; go_simp; (try with_reducible rfl)
  simp only [Act.put, List.setIfInBounds_toArray, List.set_cons_zero, List.set_cons_succ]
  refine wpAnyH_take (i := 13) (oi := { dst := some 20, op := Go.Op.load 55 (Go.Operand.tmp 19), type := 55, pos := "contexts.go:56", after := #[{ on := 12, ground := Go.Ground.data }], guard := none }) (v := .agg (cellsF (word Y))) rfl (by kernel_rfl) (by kernel_rfl) (by kernel_rfl) (fun _ _ _ h => h) (Or.inl ⟨by rfl, ?_⟩) (by assumption) ?_
  · intro w' hS; exact ex_load_at (ad := ⟨ga, t * 8, none⟩) rfl rfl hS.2.2
  simp only [Act.put, List.setIfInBounds_toArray, List.set_cons_zero, List.set_cons_succ]
  refine wpAnyH_take (i := 14) (oi := { dst := some 21, op := Go.Op.binOp Go.BinOp.neq 55 (Go.Operand.tmp 13) (Go.Operand.tmp 20) 55, type := 4, pos := "contexts.go:56", after := #[{ on := 6, ground := Go.Ground.data }, { on := 13, ground := Go.Ground.data }], guard := none }) (v := .bool (!decide (X = Y))) rfl (by kernel_rfl) (by kernel_rfl) (by kernel_rfl) (fun _ _ _ h => h) (Or.inl ⟨by rfl, ?_⟩) (by assumption) ?_
  · intro w' hS; exact ex_neq_set (N := X) (M := Y) rfl rfl rfl HFX.out.1 HFX.out.2 w'
  simp only [Act.put, List.setIfInBounds_toArray, List.set_cons_zero, List.set_cons_succ]
  refine wpAnyH_take (i := 15) (oi := { dst := some 6, op := Go.Op.assign (Go.Operand.tmp 21), type := 4, pos := "contexts.go:56", after := #[{ on := 14, ground := Go.Ground.data }, { on := 0, ground := Go.Ground.phase }, { on := 1, ground := Go.Ground.phase }, { on := 2, ground := Go.Ground.phase }, { on := 3, ground := Go.Ground.phase }, { on := 4, ground := Go.Ground.phase }, { on := 5, ground := Go.Ground.phase }, { on := 6, ground := Go.Ground.phase }, { on := 7, ground := Go.Ground.phase }, { on := 8, ground := Go.Ground.phase }, { on := 9, ground := Go.Ground.phase }, { on := 10, ground := Go.Ground.phase }, { on := 11, ground := Go.Ground.phase }, { on := 12, ground := Go.Ground.phase }, { on := 13, ground := Go.Ground.phase }, { on := 14, ground := Go.Ground.phase }], guard := none }) (v := ?_) rfl (by kernel_rfl) (by kernel_rfl) (by kernel_rfl) (fun _ _ _ h => h) (Or.inl ⟨by rfl, ?_⟩) (by assumption) ?_
  rotate_left
  · intro w' hS; go_simp; (try with_reducible rfl)
  simp only [Act.put, List.setIfInBounds_toArray, List.set_cons_zero, List.set_cons_succ]
  refine wpAnyH_done (by kernel_rfl) ?_ _
  go_wp2_with fail
  go_ret
  exact ⟨by rw [HE.out]; rfl, (Below.refl _ _).drew⟩

theorem find_at {l : List Nat} {P : Nat → Bool} : ∀ {k : Nat}, k < l.length → (∀ j, j < k → P (l.getD j 0) = false) → P (l.getD k 0) = true → l.find? P = some (l.getD k 0) := by
  induction l with
  | nil => intro k hk; simp at hk
  | cons a l ih =>
    intro k hk hall hP
    cases k with
    | zero => rw [List.find?_cons_of_pos (by simpa using hP)]; rfl
    | succ k =>
      have h0 := hall 0 (by omega)
      rw [List.find?_cons_of_neg (by simpa using h0)]
      exact ih (by simpa using hk) (fun j hj => by have := hall (j + 1) (by omega); simpa using this) (by simpa using hP)
theorem find_no {l : List Nat} {P : Nat → Bool} (h : ∀ j, j < l.length → P (l.getD j 0) = false) : l.find? P = none := by
  rw [List.find?_eq_none]
  intro x hx
  obtain ⟨j, hj, e⟩ := List.getElem_of_mem hx
  have := h j hj
  rw [List.getD_eq_getElem?_getD, List.getElem?_eq_getElem hj] at this
  rw [← e]
  simpa using this

/-- Do i and j behind p lead to states that are apart? -/
def apB (A : Aut) (N : List Nat) (B : Nat → Nat → Bool) (i j p : Nat) : Bool := B (stO A N (pr A.k.toNat N p i)) (stO A N (pr A.k.toNat N p j))
/-- The first of them. -/
def ahO (A : Aut) (M : List (List Nat)) (N : List Nat) (B : Nat → Nat → Bool) (i j : Nat) : Option Nat := (fsL A N M.length).find? (apB A N B i j)
/-- What ahead answers. -/
def ahV : Option Nat → Value
  | some p => .tuple #[.int .i64 (p : Nat), .bool true]
  | none => .tuple #[.int .i64 0, .bool false]

set_option maxHeartbeats 4000000 in
set_option maxRecDepth 100000 in
theorem ahead_any {w : World} {cb ob : Nat} {A : Aut} {M : List (List Nat)} {N L : List Nat} {ga gs : Nat} {fa : Option Addr} {fc : Nat} (h : CX w cb ob A M N L ga gs fa fc) (B : Nat → Nat → Bool) (nf : Nat) (i j : Nat) (hi : i < M.length) (hj : j < M.length)
    (eN : ∀ args w, (callFunc nf args).run Try.prog w = .ok (.enter nf args) w)
    (hN : ∀ y s t, Below w.heap.size w y → s < A.ac.length → t < A.ac.length → Calls Try.prog nf #[.pointer (some ⟨cb, 0, none⟩), .int .i64 (s : Nat), .int .i64 (t : Nat)] y fun e y' => e = .returned (.bool (B s t)) ∧ Below y.heap.size y y') :
    Calls Try.prog 38 #[.pointer (some ⟨cb, 0, none⟩), .int .i64 (i : Nat), .int .i64 (j : Nat), .func (.func nf) #[.pointer (some ⟨cb, 0, none⟩)] #[]] w fun e w' => e = .returned (ahV (ahO A M N B i j)) ∧ Below w.heap.size w w' := by
  have HCX0 : Hid (CX w cb ob A M N L ga gs fa fc) := h
  have HMON : Hid (Mon A M N) := h.mo.mon
  have HN : Hid (∀ y s t, Below w.heap.size w y → s < A.ac.length → t < A.ac.length → Calls Try.prog nf #[.pointer (some ⟨cb, 0, none⟩), .int .i64 (s : Nat), .int .i64 (t : Nat)] y fun e y' => e = .returned (.bool (B s t)) ∧ Below y.heap.size y y') := hN
  have HIJ : Hid (i < M.length ∧ j < M.length) := ⟨hi, hj⟩
  obtain ⟨F, hF⟩ : ∃ F, fsL A N M.length = F := ⟨_, rfl⟩
  have HF : Hid (fsL A N M.length = F) := hF
  have HFL : Hid (F.length ≤ 512) := by show _ ≤ _; rw [← hF]; exact Nat.le_trans (fsL_len _ _ _) h.mo.mon.most
  have HFM : Hid (∀ k, k < F.length → F.getD k 0 < M.length) := fun k hk => by
    have hm : F.getD k 0 ∈ fsL A N M.length := by rw [hF, List.getD_eq_getElem?_getD, List.getElem?_eq_getElem hk]; exact List.getElem_mem hk
    exact (mem_fsL.1 hm).1
  have HFS : Hid (SR w fa (nC F)) := by show SR _ _ _; rw [← hF]; exact h.fs
  have c3 : w.cell? ⟨cb, 3, none⟩ = some (.slice fa F.length fc) := by rw [← hF]; exact cell_at h.box rfl
  have HAO : Hid (ahO A M N B i j = F.find? (apB A N B i j)) := by show _ = _; unfold ahO; rw [hF]
  clear h hN hi hj hF
  go_enter Try.func38, Try.ntmps38
  go_wp2_with fail
  clear c3
  go_loopw [17] (fun vk wr => ∃ k : Nat, vk = .int .i64 (k : Nat) ∧ k ≤ F.length ∧ (∀ q, q < k → apB A N B i j (F.getD q 0) = false) ∧ Below w.heap.size w wr) (fun vk _ => F.length - (Go.RowKit.intOf vk).toNat)
  case atStart => exact ⟨0, rfl, Nat.zero_le _, fun q hq => absurd hq (by omega), Below.refl _ _⟩
  case round =>
    obtain ⟨k, rfl, hk, hall, hb⟩ := hrel
    have HALL : Hid (∀ q, q < k → apB A N B i j (F.getD q 0) = false) := hall
    have HC : Hid (Below w.heap.size w wr) := hb
    have HCX : Hid (CX wr cb ob A M N L ga gs fa fc) := HCX0.out.below hb
    clear hall hb
    have hfl := HFL.out
    by_cases hlt : k < F.length
    · have hkI : (k : Int) < F.length := by omega
      have hkd : decide ((k : Int) < F.length) = true := decide_eq_true hkI
      have hk5 : k < 512 := by omega
      have HK : Hid (k < F.length) := hlt
      obtain ⟨g, o, rfl, _, hc⟩ := (HFS.out.stay HC.out).nat hlt
      have HPL : Hid (F.getD k 0 < M.length) := HFM.out k hlt
      obtain ⟨p, hp⟩ : ∃ p, F.getD k 0 = p := ⟨_, rfl⟩
      rw [hp] at hc HPL
      have HPE : Hid (F.getD k 0 = p) := hp
      have hx1 := HMON.out.pr_lt HPL.out HIJ.out.1
      have hx2 := HMON.out.pr_lt HPL.out HIJ.out.2
      have hs1 := stO_lt HMON.out hx1
      have hs2 := stO_lt HMON.out hx2
      have HP1 : Hid (∀ y, Below wr.heap.size wr y → Calls Try.prog 60 #[.pointer (some ⟨cb, 0, none⟩), .int .i64 (p : Nat), .int .i64 (i : Nat)] y fun e w' => e = .returned (.int .i64 (pr A.k.toNat N p i : Nat)) ∧ Below y.heap.size y w') := fun y hy => oproduct_any (HCX.out.below hy) p i HPL.out HIJ.out.1
      have HP2 : Hid (∀ y, Below wr.heap.size wr y → Calls Try.prog 60 #[.pointer (some ⟨cb, 0, none⟩), .int .i64 (p : Nat), .int .i64 (j : Nat)] y fun e w' => e = .returned (.int .i64 (pr A.k.toNat N p j : Nat)) ∧ Below y.heap.size y w') := fun y hy => oproduct_any (HCX.out.below hy) p j HPL.out HIJ.out.2
      have hc1 : ∀ y, Below wr.heap.size wr y → y.cell? ⟨gs, pr A.k.toNat N p i, none⟩ = some (.int .i64 (stO A N (pr A.k.toNat N p i) : Nat)) := fun y hy => by
        have q := (HCX.out.below hy).st.cell (i := pr A.k.toNat N p i) (by rw [stL_len]; exact hx1)
        rwa [stL_at A N hx1] at q
      have hc2 : ∀ y, Below wr.heap.size wr y → y.cell? ⟨gs, pr A.k.toNat N p j, none⟩ = some (.int .i64 (stO A N (pr A.k.toNat N p j) : Nat)) := fun y hy => by
        have q := (HCX.out.below hy).st.cell (i := pr A.k.toNat N p j) (by rw [stL_len]; exact hx2)
        rwa [stL_at A N hx2] at q
      have HAP : Hid (apB A N B i j p = B (stO A N (pr A.k.toNat N p i)) (stO A N (pr A.k.toNat N p j))) := rfl
      obtain ⟨x1, hx1e⟩ : ∃ x, pr A.k.toNat N p i = x := ⟨_, rfl⟩
      obtain ⟨x2, hx2e⟩ : ∃ x, pr A.k.toNat N p j = x := ⟨_, rfl⟩
      rw [hx1e] at HP1 hc1 HAP hx1 hs1
      rw [hx2e] at HP2 hc2 HAP hx2 hs2
      obtain ⟨s1, hs1e⟩ : ∃ x, stO A N x1 = x := ⟨_, rfl⟩
      obtain ⟨s2, hs2e⟩ : ∃ x, stO A N x2 = x := ⟨_, rfl⟩
      rw [hs1e] at hc1 HAP hs1
      rw [hs2e] at hc2 HAP hs2
      have HS1 : Hid (∀ y, Below wr.heap.size wr y → y.cell? ⟨gs, x1, none⟩ = some (.int .i64 (s1 : Nat))) := hc1
      have HS2 : Hid (∀ y, Below wr.heap.size wr y → y.cell? ⟨gs, x2, none⟩ = some (.int .i64 (s2 : Nat))) := hc2
      have hi1 : (x1 : Int) < M.length := by omega
      have hi2 : (x2 : Int) < M.length := by omega
      obtain ⟨b, hbb⟩ : ∃ b, B s1 s2 = b := ⟨_, rfl⟩
      rw [hbb] at HAP
      have HNN : Hid (∀ y, Below wr.heap.size wr y → Calls Try.prog nf #[.pointer (some ⟨cb, 0, none⟩), .int .i64 (s1 : Nat), .int .i64 (s2 : Nat)] y fun e y' => e = .returned (.bool b) ∧ Below y.heap.size y y') := fun y hy => by
        have q := HN.out y s1 s2 (go_on HC.out hy) hs1 hs2
        rwa [hbb] at q
      clear hp hx1 hx2 hs1 hs2 hc1 hc2 hx1e hx2e hs1e hs2e hbb hlt hk hfl
      go_upto_region 4 with fail
      cases b with
      | true =>
        refine wp_region_held_drew (S := fun y => Below wr.heap.size wr y) (by kernel_rfl) (Below.refl _ _).drew (fun hH0 => ?_)
        generalize wr.drew = y0 at hH0 ⊢
        refine wpAnyH_take (i := 0) (oi := { dst := some 21, op := Go.Op.move (Go.Operand.tmp 3), type := 77, pos := "contexts.go:61", after := #[], guard := none }) (v := ?_) rfl (by kernel_rfl) (by kernel_rfl) (by kernel_rfl) (fun _ _ _ h => h) (Or.inl ⟨by rfl, ?_⟩) (by assumption) ?_
        rotate_left
        · intro w' hS; go_simp; (try with_reducible rfl)
        simp only [Act.put, List.setIfInBounds_toArray, List.set_cons_zero, List.set_cons_succ]
        refine wpAnyH_take (i := 1) (oi := { dst := some 22, op := Go.Op.move (Go.Operand.tmp 0), type := 75, pos := "contexts.go:61", after := #[], guard := none }) (v := ?_) rfl (by kernel_rfl) (by kernel_rfl) (by kernel_rfl) (fun _ _ _ h => h) (Or.inl ⟨by rfl, ?_⟩) (by assumption) ?_
        rotate_left
        · intro w' hS; go_simp; (try with_reducible rfl)
        simp only [Act.put, List.setIfInBounds_toArray, List.set_cons_zero, List.set_cons_succ]
        refine wpAnyH_take (i := 2) (oi := { dst := some 23, op := Go.Op.nilCheck (Go.Operand.tmp 22), type := 0, pos := "contexts.go:61", after := #[{ on := 1, ground := Go.Ground.data }], guard := none }) (v := ?_) rfl (by kernel_rfl) (by kernel_rfl) (by kernel_rfl) (fun _ _ _ h => h) (Or.inl ⟨by rfl, ?_⟩) (by assumption) ?_
        rotate_left
        · intro w' hS; go_simp; (try with_reducible rfl)
        simp only [Act.put, List.setIfInBounds_toArray, List.set_cons_zero, List.set_cons_succ]
        refine wpAnyH_take (i := 3) (oi := { dst := some 24, op := Go.Op.fieldAddr 100 (Go.Operand.tmp 23) 2, type := 0, pos := "contexts.go:61", after := #[{ on := 2, ground := Go.Ground.data }], guard := none }) (v := ?_) rfl (by kernel_rfl) (by kernel_rfl) (by kernel_rfl) (fun _ _ _ h => h) (Or.inl ⟨by rfl, ?_⟩) (by assumption) ?_
        rotate_left
        · intro w' hS; go_simp; (try with_reducible rfl)
        simp only [Act.put, List.setIfInBounds_toArray, List.set_cons_zero, List.set_cons_succ]
        refine wpAnyH_take (i := 4) (oi := { dst := some 25, op := Go.Op.load 23 (Go.Operand.tmp 24), type := 23, pos := "contexts.go:61", after := #[{ on := 3, ground := Go.Ground.data }], guard := none }) (v := .slice (some ⟨gs, 0, none⟩) M.length M.length) rfl (by kernel_rfl) (by kernel_rfl) (by kernel_rfl) (fun _ _ _ h => h) (Or.inl ⟨by rfl, ?_⟩) (by assumption) ?_
        · intro w' hS; have hz : w'.cell? ⟨cb, 2, none⟩ = some (.slice (some ⟨gs, 0, none⟩) M.length M.length) := cell_at (HCX.out.below hS).box rfl; go_simp
        simp only [Act.put, List.setIfInBounds_toArray, List.set_cons_zero, List.set_cons_succ]
        refine wpAnyH_take (i := 5) (oi := { dst := some 26, op := Go.Op.move (Go.Operand.tmp 0), type := 75, pos := "contexts.go:61", after := #[], guard := none }) (v := ?_) rfl (by kernel_rfl) (by kernel_rfl) (by kernel_rfl) (fun _ _ _ h => h) (Or.inl ⟨by rfl, ?_⟩) (by assumption) ?_
        rotate_left
        · intro w' hS; go_simp; (try with_reducible rfl)
        simp only [Act.put, List.setIfInBounds_toArray, List.set_cons_zero, List.set_cons_succ]
        refine wpAnyH_take (i := 6) (oi := { dst := some 27, op := Go.Op.move (Go.Operand.tmp 11), type := 3, pos := "contexts.go:61", after := #[], guard := none }) (v := ?_) rfl (by kernel_rfl) (by kernel_rfl) (by kernel_rfl) (fun _ _ _ h => h) (Or.inl ⟨by rfl, ?_⟩) (by assumption) ?_
        rotate_left
        · intro w' hS; go_simp; (try with_reducible rfl)
        simp only [Act.put, List.setIfInBounds_toArray, List.set_cons_zero, List.set_cons_succ]
        refine wpAnyH_take (i := 7) (oi := { dst := some 28, op := Go.Op.move (Go.Operand.tmp 1), type := 3, pos := "contexts.go:61", after := #[], guard := none }) (v := ?_) rfl (by kernel_rfl) (by kernel_rfl) (by kernel_rfl) (fun _ _ _ h => h) (Or.inl ⟨by rfl, ?_⟩) (by assumption) ?_
        rotate_left
        · intro w' hS; go_simp; (try with_reducible rfl)
        simp only [Act.put, List.setIfInBounds_toArray, List.set_cons_zero, List.set_cons_succ]
        refine wpAnyH_take (i := 11) (oi := { dst := some 32, op := Go.Op.move (Go.Operand.tmp 0), type := 75, pos := "contexts.go:61", after := #[], guard := none }) (v := ?_) rfl (by kernel_rfl) (by kernel_rfl) (by kernel_rfl) (fun _ _ _ h => h) (Or.inl ⟨by rfl, ?_⟩) (by assumption) ?_
        rotate_left
        · intro w' hS; go_simp; (try with_reducible rfl)
        simp only [Act.put, List.setIfInBounds_toArray, List.set_cons_zero, List.set_cons_succ]
        refine wpAnyH_take (i := 12) (oi := { dst := some 33, op := Go.Op.nilCheck (Go.Operand.tmp 32), type := 0, pos := "contexts.go:61", after := #[{ on := 11, ground := Go.Ground.data }], guard := none }) (v := ?_) rfl (by kernel_rfl) (by kernel_rfl) (by kernel_rfl) (fun _ _ _ h => h) (Or.inl ⟨by rfl, ?_⟩) (by assumption) ?_
        rotate_left
        · intro w' hS; go_simp; (try with_reducible rfl)
        simp only [Act.put, List.setIfInBounds_toArray, List.set_cons_zero, List.set_cons_succ]
        refine wpAnyH_take (i := 13) (oi := { dst := some 34, op := Go.Op.fieldAddr 100 (Go.Operand.tmp 33) 2, type := 0, pos := "contexts.go:61", after := #[{ on := 12, ground := Go.Ground.data }], guard := none }) (v := ?_) rfl (by kernel_rfl) (by kernel_rfl) (by kernel_rfl) (fun _ _ _ h => h) (Or.inl ⟨by rfl, ?_⟩) (by assumption) ?_
        rotate_left
        · intro w' hS; go_simp; (try with_reducible rfl)
        simp only [Act.put, List.setIfInBounds_toArray, List.set_cons_zero, List.set_cons_succ]
        refine wpAnyH_take (i := 14) (oi := { dst := some 35, op := Go.Op.load 23 (Go.Operand.tmp 34), type := 23, pos := "contexts.go:61", after := #[{ on := 13, ground := Go.Ground.data }], guard := none }) (v := .slice (some ⟨gs, 0, none⟩) M.length M.length) rfl (by kernel_rfl) (by kernel_rfl) (by kernel_rfl) (fun _ _ _ h => h) (Or.inl ⟨by rfl, ?_⟩) (by assumption) ?_
        · intro w' hS; have hz : w'.cell? ⟨cb, 2, none⟩ = some (.slice (some ⟨gs, 0, none⟩) M.length M.length) := cell_at (HCX.out.below hS).box rfl; go_simp
        simp only [Act.put, List.setIfInBounds_toArray, List.set_cons_zero, List.set_cons_succ]
        refine wpAnyH_take (i := 15) (oi := { dst := some 36, op := Go.Op.move (Go.Operand.tmp 0), type := 75, pos := "contexts.go:61", after := #[], guard := none }) (v := ?_) rfl (by kernel_rfl) (by kernel_rfl) (by kernel_rfl) (fun _ _ _ h => h) (Or.inl ⟨by rfl, ?_⟩) (by assumption) ?_
        rotate_left
        · intro w' hS; go_simp; (try with_reducible rfl)
        simp only [Act.put, List.setIfInBounds_toArray, List.set_cons_zero, List.set_cons_succ]
        refine wpAnyH_take (i := 16) (oi := { dst := some 37, op := Go.Op.move (Go.Operand.tmp 11), type := 3, pos := "contexts.go:61", after := #[], guard := none }) (v := ?_) rfl (by kernel_rfl) (by kernel_rfl) (by kernel_rfl) (fun _ _ _ h => h) (Or.inl ⟨by rfl, ?_⟩) (by assumption) ?_
        rotate_left
        · intro w' hS; go_simp; (try with_reducible rfl)
        simp only [Act.put, List.setIfInBounds_toArray, List.set_cons_zero, List.set_cons_succ]
        refine wpAnyH_take (i := 17) (oi := { dst := some 38, op := Go.Op.move (Go.Operand.tmp 2), type := 3, pos := "contexts.go:61", after := #[], guard := none }) (v := ?_) rfl (by kernel_rfl) (by kernel_rfl) (by kernel_rfl) (fun _ _ _ h => h) (Or.inl ⟨by rfl, ?_⟩) (by assumption) ?_
        rotate_left
        · intro w' hS; go_simp; (try with_reducible rfl)
        simp only [Act.put, List.setIfInBounds_toArray, List.set_cons_zero, List.set_cons_succ]
        refine wpAnyH_ready (rs := [8]) (by kernel_rfl) (by simp) ?_
        refine AllReadyH.cons rfl (fun K hK => ?_) AllReadyH.nil
        go_simp
        go_at_call 60
        refine Calls.mono (HP1.out _ hH0) ?_
        rintro e y1 ⟨rfl, hB⟩
        have hN : Below wr.heap.size wr y1 := go_on hH0 hB
        clear hB
        go_wp2_with fail
        refine hK.out _ _ hN (fun hH1 => ?_)
        clear hN
        clear hK K
        refine wpAnyH_take (i := 9) (oi := { dst := some 30, op := Go.Op.indexAddr 23 (Go.Operand.tmp 25) (Go.Operand.tmp 29), type := 0, pos := "contexts.go:61", after := #[{ on := 4, ground := Go.Ground.data }, { on := 8, ground := Go.Ground.data }], guard := none }) (v := ?_) rfl (by kernel_rfl) (by kernel_rfl) (by kernel_rfl) (fun _ _ _ h => h) (Or.inl ⟨by rfl, ?_⟩) (by assumption) ?_
        rotate_left
        · intro w' hS; go_simp; (try with_reducible rfl)
        simp only [Act.put, List.setIfInBounds_toArray, List.set_cons_zero, List.set_cons_succ]
        refine wpAnyH_take (i := 10) (oi := { dst := some 31, op := Go.Op.load 3 (Go.Operand.tmp 30), type := 3, pos := "contexts.go:61", after := #[{ on := 9, ground := Go.Ground.data }], guard := none }) (v := .int .i64 (s1 : Nat)) rfl (by kernel_rfl) (by kernel_rfl) (by kernel_rfl) (fun _ _ _ h => h) (Or.inl ⟨by rfl, ?_⟩) (by assumption) ?_
        · intro w' hS; have hz := HS1.out w' hS; go_simp
        simp only [Act.put, List.setIfInBounds_toArray, List.set_cons_zero, List.set_cons_succ]
        refine wpAnyH_ready (rs := [18]) (by kernel_rfl) (by simp) ?_
        refine AllReadyH.cons rfl (fun K hK => ?_) AllReadyH.nil
        go_simp
        go_at_call 60
        refine Calls.mono (HP2.out _ hH1) ?_
        rintro e y2 ⟨rfl, hB⟩
        have hN : Below wr.heap.size wr y2 := go_on hH1 hB
        clear hB
        go_wp2_with fail
        refine hK.out _ _ hN (fun hH2 => ?_)
        clear hN
        clear hK K
        refine wpAnyH_take (i := 19) (oi := { dst := some 40, op := Go.Op.indexAddr 23 (Go.Operand.tmp 35) (Go.Operand.tmp 39), type := 0, pos := "contexts.go:61", after := #[{ on := 14, ground := Go.Ground.data }, { on := 18, ground := Go.Ground.data }], guard := none }) (v := ?_) rfl (by kernel_rfl) (by kernel_rfl) (by kernel_rfl) (fun _ _ _ h => h) (Or.inl ⟨by rfl, ?_⟩) (by assumption) ?_
        rotate_left
        · intro w' hS; go_simp; (try with_reducible rfl)
        simp only [Act.put, List.setIfInBounds_toArray, List.set_cons_zero, List.set_cons_succ]
        refine wpAnyH_take (i := 20) (oi := { dst := some 41, op := Go.Op.load 3 (Go.Operand.tmp 40), type := 3, pos := "contexts.go:61", after := #[{ on := 19, ground := Go.Ground.data }], guard := none }) (v := .int .i64 (s2 : Nat)) rfl (by kernel_rfl) (by kernel_rfl) (by kernel_rfl) (fun _ _ _ h => h) (Or.inl ⟨by rfl, ?_⟩) (by assumption) ?_
        · intro w' hS; have hz := HS2.out w' hS; go_simp
        simp only [Act.put, List.setIfInBounds_toArray, List.set_cons_zero, List.set_cons_succ]
        refine wpAnyH_ready (rs := [21]) (by kernel_rfl) (by simp) ?_
        refine AllReadyH.cons rfl (fun K hK => ?_) AllReadyH.nil
        go_simp
        refine Calls.mono (HNN.out _ hH2) ?_
        rintro e y3 ⟨rfl, hB⟩
        have hN : Below wr.heap.size wr y3 := go_on hH2 hB
        clear hB
        go_wp2_with fail
        refine hK.out _ _ hN (fun hH3 => ?_)
        clear hN
        clear hK K
        refine wpAnyH_done (by kernel_rfl) ?_ _
        go_wp2_with fail
        go_ret2
        refine ⟨?_, go_on HC.out hH3⟩
        rw [HAO.out, find_at HK.out HALL.out (by rw [HPE.out]; exact HAP.out), HPE.out]
        rfl
      | false =>
        refine wp_region_held_drew (S := fun y => Below wr.heap.size wr y) (by kernel_rfl) (Below.refl _ _).drew (fun hH0 => ?_)
        generalize wr.drew = y0 at hH0 ⊢
        refine wpAnyH_take (i := 0) (oi := { dst := some 21, op := Go.Op.move (Go.Operand.tmp 3), type := 77, pos := "contexts.go:61", after := #[], guard := none }) (v := ?_) rfl (by kernel_rfl) (by kernel_rfl) (by kernel_rfl) (fun _ _ _ h => h) (Or.inl ⟨by rfl, ?_⟩) (by assumption) ?_
        rotate_left
        · intro w' hS; go_simp; (try with_reducible rfl)
        simp only [Act.put, List.setIfInBounds_toArray, List.set_cons_zero, List.set_cons_succ]
        refine wpAnyH_take (i := 1) (oi := { dst := some 22, op := Go.Op.move (Go.Operand.tmp 0), type := 75, pos := "contexts.go:61", after := #[], guard := none }) (v := ?_) rfl (by kernel_rfl) (by kernel_rfl) (by kernel_rfl) (fun _ _ _ h => h) (Or.inl ⟨by rfl, ?_⟩) (by assumption) ?_
        rotate_left
        · intro w' hS; go_simp; (try with_reducible rfl)
        simp only [Act.put, List.setIfInBounds_toArray, List.set_cons_zero, List.set_cons_succ]
        refine wpAnyH_take (i := 2) (oi := { dst := some 23, op := Go.Op.nilCheck (Go.Operand.tmp 22), type := 0, pos := "contexts.go:61", after := #[{ on := 1, ground := Go.Ground.data }], guard := none }) (v := ?_) rfl (by kernel_rfl) (by kernel_rfl) (by kernel_rfl) (fun _ _ _ h => h) (Or.inl ⟨by rfl, ?_⟩) (by assumption) ?_
        rotate_left
        · intro w' hS; go_simp; (try with_reducible rfl)
        simp only [Act.put, List.setIfInBounds_toArray, List.set_cons_zero, List.set_cons_succ]
        refine wpAnyH_take (i := 3) (oi := { dst := some 24, op := Go.Op.fieldAddr 100 (Go.Operand.tmp 23) 2, type := 0, pos := "contexts.go:61", after := #[{ on := 2, ground := Go.Ground.data }], guard := none }) (v := ?_) rfl (by kernel_rfl) (by kernel_rfl) (by kernel_rfl) (fun _ _ _ h => h) (Or.inl ⟨by rfl, ?_⟩) (by assumption) ?_
        rotate_left
        · intro w' hS; go_simp; (try with_reducible rfl)
        simp only [Act.put, List.setIfInBounds_toArray, List.set_cons_zero, List.set_cons_succ]
        refine wpAnyH_take (i := 4) (oi := { dst := some 25, op := Go.Op.load 23 (Go.Operand.tmp 24), type := 23, pos := "contexts.go:61", after := #[{ on := 3, ground := Go.Ground.data }], guard := none }) (v := .slice (some ⟨gs, 0, none⟩) M.length M.length) rfl (by kernel_rfl) (by kernel_rfl) (by kernel_rfl) (fun _ _ _ h => h) (Or.inl ⟨by rfl, ?_⟩) (by assumption) ?_
        · intro w' hS; have hz : w'.cell? ⟨cb, 2, none⟩ = some (.slice (some ⟨gs, 0, none⟩) M.length M.length) := cell_at (HCX.out.below hS).box rfl; go_simp
        simp only [Act.put, List.setIfInBounds_toArray, List.set_cons_zero, List.set_cons_succ]
        refine wpAnyH_take (i := 5) (oi := { dst := some 26, op := Go.Op.move (Go.Operand.tmp 0), type := 75, pos := "contexts.go:61", after := #[], guard := none }) (v := ?_) rfl (by kernel_rfl) (by kernel_rfl) (by kernel_rfl) (fun _ _ _ h => h) (Or.inl ⟨by rfl, ?_⟩) (by assumption) ?_
        rotate_left
        · intro w' hS; go_simp; (try with_reducible rfl)
        simp only [Act.put, List.setIfInBounds_toArray, List.set_cons_zero, List.set_cons_succ]
        refine wpAnyH_take (i := 6) (oi := { dst := some 27, op := Go.Op.move (Go.Operand.tmp 11), type := 3, pos := "contexts.go:61", after := #[], guard := none }) (v := ?_) rfl (by kernel_rfl) (by kernel_rfl) (by kernel_rfl) (fun _ _ _ h => h) (Or.inl ⟨by rfl, ?_⟩) (by assumption) ?_
        rotate_left
        · intro w' hS; go_simp; (try with_reducible rfl)
        simp only [Act.put, List.setIfInBounds_toArray, List.set_cons_zero, List.set_cons_succ]
        refine wpAnyH_take (i := 7) (oi := { dst := some 28, op := Go.Op.move (Go.Operand.tmp 1), type := 3, pos := "contexts.go:61", after := #[], guard := none }) (v := ?_) rfl (by kernel_rfl) (by kernel_rfl) (by kernel_rfl) (fun _ _ _ h => h) (Or.inl ⟨by rfl, ?_⟩) (by assumption) ?_
        rotate_left
        · intro w' hS; go_simp; (try with_reducible rfl)
        simp only [Act.put, List.setIfInBounds_toArray, List.set_cons_zero, List.set_cons_succ]
        refine wpAnyH_take (i := 11) (oi := { dst := some 32, op := Go.Op.move (Go.Operand.tmp 0), type := 75, pos := "contexts.go:61", after := #[], guard := none }) (v := ?_) rfl (by kernel_rfl) (by kernel_rfl) (by kernel_rfl) (fun _ _ _ h => h) (Or.inl ⟨by rfl, ?_⟩) (by assumption) ?_
        rotate_left
        · intro w' hS; go_simp; (try with_reducible rfl)
        simp only [Act.put, List.setIfInBounds_toArray, List.set_cons_zero, List.set_cons_succ]
        refine wpAnyH_take (i := 12) (oi := { dst := some 33, op := Go.Op.nilCheck (Go.Operand.tmp 32), type := 0, pos := "contexts.go:61", after := #[{ on := 11, ground := Go.Ground.data }], guard := none }) (v := ?_) rfl (by kernel_rfl) (by kernel_rfl) (by kernel_rfl) (fun _ _ _ h => h) (Or.inl ⟨by rfl, ?_⟩) (by assumption) ?_
        rotate_left
        · intro w' hS; go_simp; (try with_reducible rfl)
        simp only [Act.put, List.setIfInBounds_toArray, List.set_cons_zero, List.set_cons_succ]
        refine wpAnyH_take (i := 13) (oi := { dst := some 34, op := Go.Op.fieldAddr 100 (Go.Operand.tmp 33) 2, type := 0, pos := "contexts.go:61", after := #[{ on := 12, ground := Go.Ground.data }], guard := none }) (v := ?_) rfl (by kernel_rfl) (by kernel_rfl) (by kernel_rfl) (fun _ _ _ h => h) (Or.inl ⟨by rfl, ?_⟩) (by assumption) ?_
        rotate_left
        · intro w' hS; go_simp; (try with_reducible rfl)
        simp only [Act.put, List.setIfInBounds_toArray, List.set_cons_zero, List.set_cons_succ]
        refine wpAnyH_take (i := 14) (oi := { dst := some 35, op := Go.Op.load 23 (Go.Operand.tmp 34), type := 23, pos := "contexts.go:61", after := #[{ on := 13, ground := Go.Ground.data }], guard := none }) (v := .slice (some ⟨gs, 0, none⟩) M.length M.length) rfl (by kernel_rfl) (by kernel_rfl) (by kernel_rfl) (fun _ _ _ h => h) (Or.inl ⟨by rfl, ?_⟩) (by assumption) ?_
        · intro w' hS; have hz : w'.cell? ⟨cb, 2, none⟩ = some (.slice (some ⟨gs, 0, none⟩) M.length M.length) := cell_at (HCX.out.below hS).box rfl; go_simp
        simp only [Act.put, List.setIfInBounds_toArray, List.set_cons_zero, List.set_cons_succ]
        refine wpAnyH_take (i := 15) (oi := { dst := some 36, op := Go.Op.move (Go.Operand.tmp 0), type := 75, pos := "contexts.go:61", after := #[], guard := none }) (v := ?_) rfl (by kernel_rfl) (by kernel_rfl) (by kernel_rfl) (fun _ _ _ h => h) (Or.inl ⟨by rfl, ?_⟩) (by assumption) ?_
        rotate_left
        · intro w' hS; go_simp; (try with_reducible rfl)
        simp only [Act.put, List.setIfInBounds_toArray, List.set_cons_zero, List.set_cons_succ]
        refine wpAnyH_take (i := 16) (oi := { dst := some 37, op := Go.Op.move (Go.Operand.tmp 11), type := 3, pos := "contexts.go:61", after := #[], guard := none }) (v := ?_) rfl (by kernel_rfl) (by kernel_rfl) (by kernel_rfl) (fun _ _ _ h => h) (Or.inl ⟨by rfl, ?_⟩) (by assumption) ?_
        rotate_left
        · intro w' hS; go_simp; (try with_reducible rfl)
        simp only [Act.put, List.setIfInBounds_toArray, List.set_cons_zero, List.set_cons_succ]
        refine wpAnyH_take (i := 17) (oi := { dst := some 38, op := Go.Op.move (Go.Operand.tmp 2), type := 3, pos := "contexts.go:61", after := #[], guard := none }) (v := ?_) rfl (by kernel_rfl) (by kernel_rfl) (by kernel_rfl) (fun _ _ _ h => h) (Or.inl ⟨by rfl, ?_⟩) (by assumption) ?_
        rotate_left
        · intro w' hS; go_simp; (try with_reducible rfl)
        simp only [Act.put, List.setIfInBounds_toArray, List.set_cons_zero, List.set_cons_succ]
        refine wpAnyH_ready (rs := [8]) (by kernel_rfl) (by simp) ?_
        refine AllReadyH.cons rfl (fun K hK => ?_) AllReadyH.nil
        go_simp
        go_at_call 60
        refine Calls.mono (HP1.out _ hH0) ?_
        rintro e y1 ⟨rfl, hB⟩
        have hN : Below wr.heap.size wr y1 := go_on hH0 hB
        clear hB
        go_wp2_with fail
        refine hK.out _ _ hN (fun hH1 => ?_)
        clear hN
        clear hK K
        refine wpAnyH_take (i := 9) (oi := { dst := some 30, op := Go.Op.indexAddr 23 (Go.Operand.tmp 25) (Go.Operand.tmp 29), type := 0, pos := "contexts.go:61", after := #[{ on := 4, ground := Go.Ground.data }, { on := 8, ground := Go.Ground.data }], guard := none }) (v := ?_) rfl (by kernel_rfl) (by kernel_rfl) (by kernel_rfl) (fun _ _ _ h => h) (Or.inl ⟨by rfl, ?_⟩) (by assumption) ?_
        rotate_left
        · intro w' hS; go_simp; (try with_reducible rfl)
        simp only [Act.put, List.setIfInBounds_toArray, List.set_cons_zero, List.set_cons_succ]
        refine wpAnyH_take (i := 10) (oi := { dst := some 31, op := Go.Op.load 3 (Go.Operand.tmp 30), type := 3, pos := "contexts.go:61", after := #[{ on := 9, ground := Go.Ground.data }], guard := none }) (v := .int .i64 (s1 : Nat)) rfl (by kernel_rfl) (by kernel_rfl) (by kernel_rfl) (fun _ _ _ h => h) (Or.inl ⟨by rfl, ?_⟩) (by assumption) ?_
        · intro w' hS; have hz := HS1.out w' hS; go_simp
        simp only [Act.put, List.setIfInBounds_toArray, List.set_cons_zero, List.set_cons_succ]
        refine wpAnyH_ready (rs := [18]) (by kernel_rfl) (by simp) ?_
        refine AllReadyH.cons rfl (fun K hK => ?_) AllReadyH.nil
        go_simp
        go_at_call 60
        refine Calls.mono (HP2.out _ hH1) ?_
        rintro e y2 ⟨rfl, hB⟩
        have hN : Below wr.heap.size wr y2 := go_on hH1 hB
        clear hB
        go_wp2_with fail
        refine hK.out _ _ hN (fun hH2 => ?_)
        clear hN
        clear hK K
        refine wpAnyH_take (i := 19) (oi := { dst := some 40, op := Go.Op.indexAddr 23 (Go.Operand.tmp 35) (Go.Operand.tmp 39), type := 0, pos := "contexts.go:61", after := #[{ on := 14, ground := Go.Ground.data }, { on := 18, ground := Go.Ground.data }], guard := none }) (v := ?_) rfl (by kernel_rfl) (by kernel_rfl) (by kernel_rfl) (fun _ _ _ h => h) (Or.inl ⟨by rfl, ?_⟩) (by assumption) ?_
        rotate_left
        · intro w' hS; go_simp; (try with_reducible rfl)
        simp only [Act.put, List.setIfInBounds_toArray, List.set_cons_zero, List.set_cons_succ]
        refine wpAnyH_take (i := 20) (oi := { dst := some 41, op := Go.Op.load 3 (Go.Operand.tmp 40), type := 3, pos := "contexts.go:61", after := #[{ on := 19, ground := Go.Ground.data }], guard := none }) (v := .int .i64 (s2 : Nat)) rfl (by kernel_rfl) (by kernel_rfl) (by kernel_rfl) (fun _ _ _ h => h) (Or.inl ⟨by rfl, ?_⟩) (by assumption) ?_
        · intro w' hS; have hz := HS2.out w' hS; go_simp
        simp only [Act.put, List.setIfInBounds_toArray, List.set_cons_zero, List.set_cons_succ]
        refine wpAnyH_ready (rs := [21]) (by kernel_rfl) (by simp) ?_
        refine AllReadyH.cons rfl (fun K hK => ?_) AllReadyH.nil
        go_simp
        refine Calls.mono (HNN.out _ hH2) ?_
        rintro e y3 ⟨rfl, hB⟩
        have hN : Below wr.heap.size wr y3 := go_on hH2 hB
        clear hB
        go_wp2_with fail
        refine hK.out _ _ hN (fun hH3 => ?_)
        clear hN
        clear hK K
        refine wpAnyH_done (by kernel_rfl) ?_ _
        go_wp2_with fail
        go_roundw
        case rel =>
          refine ⟨k + 1, by go_num, HK.out, fun q hq => ?_, go_on HC.out hH3⟩
          by_cases e : q = k
          · rw [e, HPE.out]; exact HAP.out
          · exact HALL.out q (by omega)
        case measure => have := HK.out; simp [Go.RowKit.intOf]; omega
    · have hkI : ¬ (k : Int) < F.length := by omega
      have hkd : decide ((k : Int) < F.length) = false := decide_eq_false hkI
      have HNO : Hid (ahO A M N B i j = none) := by show _ = _; rw [HAO.out]; exact find_no fun q hq => HALL.out q (by omega)
      clear hlt hk hfl
      go_wp2_with fail
      go_ret2
      exact ⟨by rw [HNO.out]; rfl, HC.out⟩
end Go.Proofs.Ytneiegbodnalbaa
