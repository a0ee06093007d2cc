/- The states of an automaton that are met from one of them: auto.from, Ahead, Reach, Not. -/
import Derived.Test.YtggheiblgghpkaaJj
namespace Go.Proofs.Ytggheiblgghpkaa
open Go Go.RowKit Go.Lib Go.Maps
set_option linter.unusedVariables false

theorem nodup_small : ∀ (N : Nat) (l : List Nat), l.Nodup → (∀ x ∈ l, x < N) → l.length ≤ N := by
  intro N
  induction N with
  | zero =>
    intro l _ h
    cases l with
    | nil => simp
    | cons a l => exact absurd (h a (by simp)) (by omega)
  | succ N ih =>
    intro l hn h
    have h1 := ih (l.erase N) (hn.erase N) (fun x hx => by
      have h2 := (List.Nodup.mem_erase_iff hn).1 hx
      have := h x h2.2
      have := h2.1
      omega)
    have h2 := List.length_erase (a := N) (l := l)
    split at h2 <;> omega
theorem bgo_total {d : Nat → Nat → Nat} {K N x : Nat} (hk : 1 ≤ K ∧ K ≤ 8) (hN : N ≤ 4096) (hd : ∀ s c, s < N → c < K → d s c < N) : ∀ (f : Nat) (m n : List Nat), BI d K x m n → (∀ s ∈ m, s < N) → ∃ M R, bgo d K f m n = some (M, R) ∧ ∀ s ∈ M, s < N := by
  intro f
  induction f with
  | zero => intro m n _ hm; exact ⟨m, n, rfl, hm⟩
  | succ f ih =>
    intro m n h hm
    by_cases c : n.length = m.length * K
    · exact ⟨m, n, bgo_end c, hm⟩
    · have hlt : n.length / K < m.length := by
        rw [Nat.div_lt_iff_lt_mul (by omega)]
        have := h.len
        omega
      have hi := List.getElem?_eq_getElem hlt
      have hn : n.length = n.length / K * K + n.length % K := by rw [Nat.mul_comm, Nat.div_add_mod]
      have hc : n.length % K < K := Nat.mod_lt _ (by omega)
      have hdN := hd m[n.length / K] (n.length % K) (hm _ (List.getElem_mem _)) hc
      by_cases ht : d m[n.length / K] (n.length % K) ∈ m
      · rw [bgo_old hc hn hi ht]
        exact ih _ _ (h.old hc hn hi ht) hm
      · have h4 : m.length ≠ 4096 := fun e => by
          have := nodup_small N (d m[n.length / K] (n.length % K) :: m) (List.nodup_cons.2 ⟨ht, h.nodup⟩) (fun y hy => by
            rcases List.mem_cons.1 hy with rfl | hy
            · exact hdN
            · exact hm y hy)
          simp at this
          omega
        rw [bgo_new hc hn hi ht h4]
        refine ih _ _ (h.new hc hn hi ht h4) (fun y hy => ?_)
        rcases List.mem_append.1 hy with hy | hy
        · exact hm y hy
        · simp at hy; subst hy; exact hdN
theorem Good.kn {A : Aut} (h : Good A) : 1 ≤ A.k.toNat ∧ A.k.toNat ≤ 8 ∧ ((A.k.toNat : Nat) : Int) = A.k := by
  have := h.k1
  have := h.k8
  omega
/-- The search over an automaton's own states has an end. -/
theorem bfs_some {A : Aut} (G : Good A) {s : Nat} (hs : s < A.ac.length) : ∃ m n, bfs (dN A) A.k.toNat s = some (m, n) ∧ ∀ x ∈ m, x < A.ac.length :=
  bgo_total ⟨G.kn.1, G.kn.2.1⟩ G.n2 (fun x c hx hc => (G.at hx (by have := G.kn.2.2; omega)).2.2) _ _ _ (BI.start _ _ s) (fun x hx => by simp at hx; subst hx; exact hs)
/-- The automaton in order of what is met from s. -/
def rch (A : Aut) (s : Nat) (acc : Nat → Bool) : Aut := match bfs (dN A) A.k.toNat s with
  | some (m, n) => ⟨A.k, n.map fun (x : Nat) => (x : Int), m.map acc⟩
  | none => ⟨0, [], []⟩
def zAut : Aut := ⟨0, [], []⟩
/-- An automaton in memory of the call's own. -/
def AO (base : Nat) (w : World) (v : Value) (B : Aut) : Prop := ∃ an cn aa ca, v = .agg #[.int .i64 B.k, .slice an B.nx.length cn, .slice aa B.ac.length ca] ∧ w.ownsRow base 3 1 (.slice an B.nx.length cn) B.nx.length (zC B.nx) ∧ w.ownsRow base 4 1 (.slice aa B.ac.length ca) B.ac.length (bC B.ac)
theorem AO.ar {base : Nat} {w : World} {v : Value} {B : Aut} (h : AO base w v B) : AR w v B := by
  obtain ⟨an, cn, aa, ca, e, h1, h2⟩ := h
  exact ⟨an, cn, aa, ca, e, own_sr h1, own_sr h2⟩
theorem AO.below {base : Nat} {w w' : World} {v : Value} {B : Aut} (h : AO base w v B) (hb : Below w.heap.size w w') : AO base w' v B := by
  obtain ⟨an, cn, aa, ca, e, h1, h2⟩ := h
  exact ⟨an, cn, aa, ca, e, own_below h1 hb, own_below h2 hb⟩
theorem AO.mono {base base' : Nat} {w : World} {v : Value} {B : Aut} (h : AO base w v B) (hb : base' ≤ base) : AO base' w v B := by
  obtain ⟨an, cn, aa, ca, e, h1, h2⟩ := h
  exact ⟨an, cn, aa, ca, e, own_mono h1 hb, own_mono h2 hb⟩
theorem AO.keep {base : Nat} {w w' : World} {v : Value} {B : Aut} (h : AO base w v B) (hk : ∀ (b : Nat) (cur : Array Value) (e : TypeId), e ≠ 25 → w.heap[b]? = some (.cells cur e (0, 0)) → w'.heap[b]? = w.heap[b]?) : AO base w' v B := by
  obtain ⟨an, cn, aa, ca, e, h1, h2⟩ := h
  exact ⟨an, cn, aa, ca, e, own_keep h1 (fun b cur _ hc => hk b cur _ (by decide) hc), own_keep h2 (fun b cur _ hc => hk b cur _ (by decide) hc)⟩
theorem AO.zero (base : Nat) (w : World) : AO base w (.agg #[.int .i64 0, .slice none 0 0, .slice none 0 0]) zAut := ⟨none, 0, none, 0, rfl, World.ownsRow_nil _ _ _ _, World.ownsRow_nil _ _ _ _⟩
/-- What a call that makes an automaton answers. -/
def FQ (B : Aut) (E : Int) (w : World) (e : Ending) (w' : World) : Prop := ∃ v', e = .returned (.tuple #[v', .int .i64 E]) ∧ AO w.heap.size w' v' B ∧ Below w.heap.size w w'
theorem sq_fq {A : Aut} (G : Good A) {s : Nat} (hs : s < A.ac.length) {acc : Nat → Bool} {w : World} {e : Ending} {w' : World} (h : SQ (bfs (dN A) A.k.toNat s) A.k.toNat acc w e w') : FQ (rch A s acc) 0 w e w' := by
  obtain ⟨m, n, hb, _⟩ := bfs_some G hs
  have hr : rch A s acc = ⟨A.k, n.map fun (x : Nat) => (x : Int), m.map acc⟩ := by unfold rch; rw [hb]
  rcases h with ⟨h, _⟩ | ⟨m', n', vn, va, h, he, h1, h2, h3⟩
  · rw [hb] at h; cases h
  · rw [hb] at h
    simp only [Option.some.injEq, Prod.mk.injEq] at h
    obtain ⟨rfl, rfl⟩ := h
    obtain ⟨an, cn, rfl⟩ := own_shape h1
    obtain ⟨aa, ca, rfl⟩ := own_shape h2
    rw [G.kn.2.2] at he
    refine ⟨_, he, ?_, h3⟩
    rw [hr]
    refine ⟨an, cn, aa, ca, ?_, ?_, ?_⟩
    · simp
    · simpa [nC_zC] using h1
    · simpa using h2

set_option maxHeartbeats 1000000 in
set_option maxRecDepth 100000 in
theorem from1_any (v : Value) (A : Aut) (w : World) (b : Nat) (h : AR w v A) (G : Good A) (arr : Array Value) (hv : v = .agg arr) (hs3 : arr.size = 3) (R : RowAt w b arr) (s c : Nat) (hs : s < A.ac.length) (hc : (c : Int) < A.k) :
    Calls Try.prog 61 #[.int .i64 s, .int .i64 c, .pointer (some ⟨b, 0, none⟩)] w fun e w' => e = .returned (.int .i64 (dN A s c)) ∧ Below w.heap.size w w' := by
  have HST : Hid (Calls Try.prog 62 #[v, .int .i64 s, .int .i64 c] w fun e w' => e = .returned (.int .i64 (dN A s c)) ∧ Below w.heap.size w w') := astep_any v A w h G s c hs hc
  obtain ⟨an, cn, aa, ca, e, _, _⟩ := h.is
  subst hv
  simp only [Value.agg.injEq] at e
  subst e
  have cs := R.cell
  clear h G hs hc hs3 R
  go_enter Try.func61, Try.ntmps61
  go_wp2_with fail
  refine HST.out.mono ?_
  rintro e w1 ⟨rfl, hb1⟩
  go_wp2_with fail
  go_ret
  exact ⟨rfl, hb1⟩

set_option maxHeartbeats 1000000 in
set_option maxRecDepth 100000 in
theorem not1_any (v : Value) (A : Aut) (w : World) (b : Nat) (h : AR w v A) (arr : Array Value) (hv : v = .agg arr) (R : RowAt w b arr) (s : Nat) (hs : s < A.ac.length) :
    Calls Try.prog 48 #[.int .i64 s, .pointer (some ⟨b, 0, none⟩)] w fun e w' => e = .returned (.bool (!aN A s)) ∧ Below w.heap.size w w' := by
  obtain ⟨an, cn, aa, ca, e, _, h2⟩ := h.is
  subst hv
  simp only [Value.agg.injEq] at e
  subst e
  have cs := R.cell
  obtain ⟨g, o, rfl, hg, hcell⟩ := h2.bool hs
  have hsI : (s : Int) < A.ac.length := by omega
  obtain ⟨d, hd⟩ : ∃ d, A.ac.getD s false = d := ⟨_, rfl⟩
  rw [hd] at hcell
  have HD : Hid (aN A s = d) := hd
  clear h R h2 hd
  go_enter Try.func48, Try.ntmps48
  go_wp2_with fail
  go_ret
  exact ⟨by rw [HD.out]; rfl, Below.refl _ _⟩

set_option maxHeartbeats 2000000 in
set_option maxRecDepth 100000 in
theorem from_any (v : Value) (A : Aut) (w : World) (h : AR w v A) (G : Good A) (s : Nat) (hs : s < A.ac.length) (af : Nat) (ac : Array Value) (acc : Nat → Bool) (eA : ∀ args w, (callFunc af args).run Try.prog w = .ok (.enter af args) w)
    (hA : ∀ w1 s, Below w.heap.size w w1 → s < A.ac.length → Calls Try.prog af (#[.int .i64 (s : Nat)] ++ ac) w1 fun e w2 => e = .returned (.bool (acc s)) ∧ Below w1.heap.size w1 w2) :
    Calls Try.prog 47 #[v, .int .i64 s, .func (.func af) #[] ac] w (FQ (rch A s acc) 0 w) := by
  obtain ⟨an, cn, aa, ca, e, h1, h2⟩ := h.is
  have HAR : Hid (∀ w', Below w.heap.size w w' → AR w' v A) := fun w' hb => h.stay hb
  have HG : Hid (Good A) := G
  have HA : Hid (∀ w1 s, Below w.heap.size w w1 → s < A.ac.length → Calls Try.prog af (#[.int .i64 (s : Nat)] ++ ac) w1 fun e w2 => e = .returned (.bool (acc s)) ∧ Below w1.heap.size w1 w2) := hA
  obtain ⟨K, hK⟩ : ∃ K : Nat, A.k = K := ⟨A.k.toNat, G.kn.2.2.symm⟩
  have HK : Hid (A.k = (K : Int)) := hK
  have HKN : Hid (A.k.toNat = K) := by show _ = _; rw [hK]; simp
  clear h h1 h2 G hA hK
  subst e
  obtain ⟨arr, harr⟩ : ∃ arr : Array Value, arr = #[.int .i64 A.k, .slice an A.nx.length cn, .slice aa A.ac.length ca] := ⟨_, rfl⟩
  obtain ⟨W, hW⟩ : ∃ W, W = (w.alloc (.cells arr 25)).alloc (.cells #[.int .i64 0, .slice none 0 0, .slice none 0 0] 25) := ⟨_, rfl⟩
  have HR2 : Hid (RowAt W w.heap.size arr) := by
    show RowAt W w.heap.size arr
    rw [hW]
    exact (RowAt.last _ _ _).alloc _
  have HB2 : Hid (Below w.heap.size w W) := by
    show Below w.heap.size w W
    rw [hW]
    exact go_on (below_new _ _) (below_new _ _)
  have HRES : Hid (W.heap[w.heap.size + 1]? = some (.cells #[.int .i64 0, .slice none 0 0, .slice none 0 0] 25 (0, 0))) := by
    show W.heap[w.heap.size + 1]? = _
    rw [hW]
    have := heap_alloc_last (w.alloc (.cells arr 25)) (.cells #[.int .i64 0, .slice none 0 0, .slice none 0 0] 25)
    simpa using this
  have HSE : Hid (Calls Try.prog 63 #[.int .i64 K, .int .i64 s, .func (.func 61) #[] #[.pointer (some ⟨w.heap.size, 0, none⟩)], .func (.func af) #[] ac] W (FQ (rch A s acc) 0 W)) := by
    show Calls _ _ _ _ _
    refine (search_int W K s 61 af #[.pointer (some ⟨w.heap.size, 0, none⟩)] ac (by have := HG.out.kn; rw [HKN.out] at this; omega) (fun t => t < A.ac.length) (dN A) acc hs (fun t c ht hc => (HG.out.at ht (by rw [HK.out]; omega)).2.2) (fun t ht => by have := HG.out.n2; omega) (fun _ _ => rfl) eA ?_ (fun w1 t hb ht => HA.out w1 t (go_on HB2.out hb) ht)).mono ?_
    · intro w1 t c hb ht hc
      exact from1_any _ A w1 w.heap.size (HAR.out _ (go_on HB2.out hb)) HG.out arr (by rw [harr]) (by rw [harr]; rfl) (HR2.out.stay hb) t c ht (by rw [HK.out]; omega)
    · intro e w' hq
      exact sq_fq HG.out hs (by rw [HKN.out]; exact hq)
  rw [← HK.out] at HSE
  clear HAR HA HR2
  subst harr
  have HWE : Hid (W = (w.alloc (.cells #[.int .i64 A.k, .slice an A.nx.length cn, .slice aa A.ac.length ca] 25)).alloc (.cells #[.int .i64 0, .slice none 0 0, .slice none 0 0] 25)) := hW
  clear hW
  go_enter Try.func47, Try.ntmps47
  go_wp2_with fail
  rw [← HWE.out]
  refine HSE.out.mono ?_
  rintro e w1 ⟨v', rfl, hao, hb1⟩
  obtain ⟨rn, rcn, ra, rca, rfl, o1, o2⟩ := hao
  have hres1 : w1.heap[w.heap.size + 1]? = some (.cells #[.int .i64 0, .slice none 0 0, .slice none 0 0] 25 (0, 0)) := (hb1.block _ (Array.getElem?_eq_some_iff.1 HRES.out).1).trans HRES.out
  have HAO : Hid (AO w.heap.size w1 (.agg #[.int .i64 (rch A s acc).k, .slice rn (rch A s acc).nx.length rcn, .slice ra (rch A s acc).ac.length rca]) (rch A s acc)) := ⟨rn, rcn, ra, rca, rfl, own_mono o1 HB2.out.size, own_mono o2 HB2.out.size⟩
  have HB1 : Hid (Below w.heap.size w w1) := go_on HB2.out hb1
  have HR1 : Hid _ := hres1
  obtain ⟨B, hB⟩ : ∃ B, rch A s acc = B := ⟨_, rfl⟩
  rw [hB] at HAO ⊢
  have HBE : Hid (rch A s acc = B) := hB
  have hr0 : w1.cell? ⟨w.heap.size + 1, 0, none⟩ = some (.int .i64 0) := cell_of hres1
  have hr1 : w1.cell? ⟨w.heap.size + 1, 1, none⟩ = some (.slice none 0 0) := cell_of hres1
  have hr2 : w1.cell? ⟨w.heap.size + 1, 2, none⟩ = some (.slice none 0 0) := cell_of hres1
  have hf : ∀ j, w1.frozen? ⟨w.heap.size + 1, j, none⟩ = false := fun j => froz_of hres1
  clear o1 o2 hb1 hB hres1 HSE HRES HWE HB2
  go_wp2_with fail
  have e1 : (((w1.setCell ⟨w.heap.size + 1, 0, none⟩ (.int .i64 B.k)).setCell ⟨w.heap.size + 1, 1, none⟩ (.slice rn B.nx.length rcn)).setCell ⟨w.heap.size + 1, 2, none⟩ (.slice ra B.ac.length rca)).heap[w.heap.size + 1]? = some (.cells #[.int .i64 B.k, .slice rn B.nx.length rcn, .slice ra B.ac.length rca] 25 (0, 0)) := heap_set (heap_set (heap_set HR1.out))
  refine bodyPost_ret (results_auto rfl rfl e1 rfl) rfl ⟨_, rfl, ?_, ?_⟩
  · rw [HBE.out]
    refine HAO.out.keep (fun b cur e hne hc => ?_)
    have hne2 : b ≠ w.heap.size + 1 := fun e2 => by
      have hh := HR1.out
      rw [← e2, hc] at hh
      injection hh with hh
      injection hh with _ hh _
      exact hne hh
    rw [heap_set_other hne2, heap_set_other hne2, heap_set_other hne2]
  · exact ((HB1.out.setCell (p := ⟨w.heap.size + 1, 0, none⟩) (by simp) _).setCell (p := ⟨w.heap.size + 1, 1, none⟩) (by simp) _).setCell (p := ⟨w.heap.size + 1, 2, none⟩) (by simp) _
end Go.Proofs.Ytggheiblgghpkaa
