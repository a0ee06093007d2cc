/- Pure: one language, one minimal automaton; of what is minimal, and of what is not accepted. -/
import Derived.Test.YtggheiblgghpkaaLp
import Derived.Test.YtggheiblgghpkaaMv
namespace Go.Proofs.Ytggheiblgghpkaa
set_option linter.unusedVariables false

theorem cl_lang {A : Aut} (G : Good A) {u v : List Nat} (hu : Lk A.k.toNat u) (hv : Lk A.k.toNat v) : cl A (wrun (dN A) 0 u) = cl A (wrun (dN A) 0 v) ↔ ∀ z, Lk A.k.toNat z → acW A 0 (u ++ z) = acW A 0 (v ++ z) := by
  have h0 := G.n1
  rw [cl_word G (wrun_lt G (by omega) hu) (wrun_lt G (by omega) hv)]
  constructor
  · intro h z hz
    rw [acW_app, acW_app]; exact h z hz
  · intro h z hz
    have := h z hz
    rw [acW_app, acW_app] at this; exact this
theorem aN_cl {A : Aut} (G : Good A) {s : Nat} (hs : s < A.ac.length) : aN A (cl A s) = aN A s := (cl_word G (cl_lt hs) hs).1 (cl_cl hs) [] (Lk.nil _)
open Classical in
/-- From the classes of the one to those of the other one, by words. -/
noncomputable def phi (A B : Aut) (t : Nat) : Nat := if h : ∃ u, Lk A.k.toNat u ∧ t = cl B (wrun (dN B) 0 u) then cl A (wrun (dN A) 0 h.choose) else 0
theorem phi_at {A B : Aut} (G : Good A) (H : Good B) (hk : A.k = B.k) (h : ∀ v, Lk A.k.toNat v → acW A 0 v = acW B 0 v) {u : List Nat} (hu : Lk A.k.toNat u) : phi A B (cl B (wrun (dN B) 0 u)) = cl A (wrun (dN A) 0 u) := by
  unfold phi
  have hex : ∃ u', Lk A.k.toNat u' ∧ cl B (wrun (dN B) 0 u) = cl B (wrun (dN B) 0 u') := ⟨u, hu, rfl⟩
  rw [dif_pos hex]
  obtain ⟨h1, h2⟩ := hex.choose_spec
  have h3 := (cl_lang H (by rw [← hk]; exact hu) (by rw [← hk]; exact h1)).1 h2
  refine ((cl_lang G hu h1).2 (fun z hz => ?_)).symm
  rw [h _ (hu.app hz), h _ (h1.app hz)]
  exact h3 z (by rw [← hk]; exact hz)
/-- One language: one minimal automaton. -/
theorem mn_eq {A B : Aut} (G : Good A) (H : Good B) (hk : A.k = B.k) (h : ∀ v, Lk A.k.toNat v → acW A 0 v = acW B 0 v) : mnA A = mnA B := by
  have gk := G.kn
  have h0 := G.n1
  have h1 := H.n1
  have kk : B.k.toNat = A.k.toNat := by rw [hk]
  obtain ⟨M, R, hb, b1, b2, ha, e, _⟩ := mn_parts H
  obtain ⟨M', R', hb', b1', b2', ha', e', _⟩ := mn_parts G
  rw [kk] at hb e
  let P : Nat → Prop := fun t => ∃ u, Lk A.k.toNat u ∧ t = cl B (wrun (dN B) 0 u)
  have stepB : ∀ {u : List Nat} {c : Nat}, Lk A.k.toNat u → c < A.k.toNat → dC B (lvl B B.ac.length) (cl B (wrun (dN B) 0 u)) c = cl B (wrun (dN B) 0 (u ++ [c])) := fun {u c} hu hc => by
    have hl := wrun_lt H (s := 0) (by omega) (by rw [kk]; exact hu)
    rw [dC_cl, wrun_app]
    exact cl_d H (cl_lt hl) hl (by rw [kk]; exact hc) (cl_cl hl)
  have stepA : ∀ {u : List Nat} {c : Nat}, Lk A.k.toNat u → c < A.k.toNat → dC A (lvl A A.ac.length) (cl A (wrun (dN A) 0 u)) c = cl A (wrun (dN A) 0 (u ++ [c])) := fun {u c} hu hc => by
    have hl := wrun_lt G (s := 0) (by omega) hu
    rw [dC_cl, wrun_app]
    exact cl_d G (cl_lt hl) hl hc (cl_cl hl)
  have hP : ∀ t c, P t → c < A.k.toNat → P (dC B (lvl B B.ac.length) t c) := by
    rintro t c ⟨u, hu, rfl⟩ hc
    exact ⟨u ++ [c], hu.snoc hc, stepB hu hc⟩
  have hP0 : P 0 := ⟨[], Lk.nil _, (cl_zero (by omega)).symm⟩
  have hmap := bfs_map (d := dC A (lvl A A.ac.length)) (e := dC B (lvl B B.ac.length)) gk.1 (phi A B) P hP (by
    rintro a b ⟨u, hu, rfl⟩ ⟨v, hv, rfl⟩ he
    rw [phi_at G H hk h hu, phi_at G H hk h hv] at he
    refine (cl_lang H (by rw [kk]; exact hu) (by rw [kk]; exact hv)).2 (fun z hz => ?_)
    rw [kk] at hz
    rw [← h _ (hu.app hz), ← h _ (hv.app hz)]
    exact (cl_lang G hu hv).1 he z hz) (by
    rintro t c ⟨u, hu, rfl⟩ hc
    rw [stepB hu hc, phi_at G H hk h (hu.snoc hc), phi_at G H hk h hu, stepA hu hc]) (x := 0) (y := 0) hP0 (by
    have := phi_at G H hk h (Lk.nil _)
    rw [wrun_nil, wrun_nil, cl_zero (by omega), cl_zero (by omega)] at this
    exact this)
  rw [hb, hb'] at hmap
  simp only [Option.map_some, Option.some.injEq, Prod.mk.injEq] at hmap
  obtain ⟨m1, m2⟩ := hmap
  rw [e', e, m1, m2, List.map_map]
  congr 1
  refine List.map_congr_left (fun t ht => ?_)
  have hPt : P t := bgo_all gk.1 P hP 32768 [0] [] M R (fun t q => by simp at q; rw [q]; exact hP0) hb t ht
  obtain ⟨u, hu, rfl⟩ := hPt
  show aN A (phi A B _) = _
  rw [phi_at G H hk h hu, aN_cl G (wrun_lt G (by omega) hu), aN_cl H (wrun_lt H (by omega) (by rw [kk]; exact hu))]
  exact h u hu
/-- Each state of what a search made is met by a word. -/
theorem BI.word {S : Type} [DecidableEq S] {d : S → Nat → S} {k : Nat} {x : S} {M : List S} {N : List Nat} (hk : 1 ≤ k) (h : BI d k x M N) (l : List Bool) : ∀ j, j < M.length → ∃ u, Lk k u ∧ wrun (dN (oA k N l)) 0 u = j := by
  intro j
  induction j using Nat.strongRecOn with
  | ind j ih =>
    intro hj
    by_cases z : 0 < j
    · obtain ⟨p, h1, h2, _⟩ := h.fresh j z hj
      obtain ⟨u, hu, e⟩ := ih (p / k) h2 (by omega)
      refine ⟨u ++ [p % k], hu.snoc (Nat.mod_lt _ (by omega)), ?_⟩
      rw [wrun_app, e]
      show dN (oA k N l) (p / k) (p % k) = j
      rw [oA_d, Nat.div_add_mod', List.getD_eq_getElem?_getD, h1]
      rfl
    · exact ⟨[], Lk.nil _, by rw [wrun_nil]; omega⟩
theorem mn_word {A : Aut} (G : Good A) {s : Nat} (hs : s < (mnA A).ac.length) : ∃ u, Lk A.k.toNat u ∧ wrun (dN (mnA A)) 0 u = s := by
  obtain ⟨M, R, hb, b1, b2, ha, e, _⟩ := mn_parts G
  rw [e] at hs ⊢
  exact b1.word G.kn.1 _ s (by simpa [oA] using hs)
/-- The minimal automaton's minimal automaton is itself. -/
theorem mn_mn {A : Aut} (G : Good A) : mnA (mnA A) = mnA A := by
  obtain ⟨g1, g2, g3⟩ := good_mn G
  refine (mn_eq G g1 g2.symm (fun v hv => (mn_lang G hv).symm)).symm
theorem mnT_get {A : Aut} (G : Good A) : (mnT A).length = A.ac.length := by unfold mnT; rw [if_pos (chkA_ok G)]; simp
theorem mnT_id {A : Aut} (G : Good A) {s : Nat} (hs : s < (mnA A).ac.length) : (mnT (mnA A)).getD s 0 = (s : Int) := by
  obtain ⟨g1, g2, g3⟩ := good_mn G
  obtain ⟨u, hu, e⟩ := mn_word G hs
  have := (mn_to g1 (u := u) (by rw [g2]; exact hu)).1
  rw [mn_mn G, e] at this
  exact this
theorem mn_is {A : Aut} (G : Good A) : isV (mnA A) = true := by
  unfold isV
  rw [mn_mn G]
  simp [chkA_ok (good_mn G).1]
/-- What is not accepted, with the same states. -/
def cmpA (A : Aut) : Aut := ⟨A.k, A.nx, A.ac.map (!·)⟩
theorem cmpA_len (A : Aut) : (cmpA A).ac.length = A.ac.length := by simp [cmpA]
theorem cmp_good {A : Aut} (G : Good A) : Good (cmpA A) := by
  have e := cmpA_len A
  exact ⟨G.k1, G.k8, by rw [e]; exact G.n1, by rw [e]; exact G.n2, by rw [e]; exact G.len, G.lo, fun i hi => by rw [e]; exact G.hi i hi⟩
theorem cmp_a {A : Aut} {s : Nat} (hs : s < A.ac.length) : aN (cmpA A) s = !aN A s := by
  unfold aN cmpA
  simp [List.getD_eq_getElem?_getD, hs]
theorem cmp_lvl (A : Aut) : ∀ n, lvl (cmpA A) n = lvl A n := by
  intro n
  induction n with
  | zero =>
    show lst (aN (cmpA A)) (cmpA A).ac.length = lst (aN A) A.ac.length
    rw [cmpA_len]
    refine lst_congr (fun s t hs ht => ?_)
    rw [cmp_a hs, cmp_a ht]
    simp
  | succ n ih =>
    show lst (sg (cmpA A) (lvl (cmpA A) n)) (cmpA A).ac.length = lst (sg A (lvl A n)) A.ac.length
    rw [cmpA_len, ih]
    rfl
theorem mn_cmp {A : Aut} (G : Good A) : mnA (cmpA A) = cmpA (mnA A) := by
  obtain ⟨M, R, hb, b1, b2, ha, e, _⟩ := mn_parts G
  obtain ⟨M', R', hb', _, _, ha', e', _⟩ := mn_parts (cmp_good G)
  have q : bfs (dC (cmpA A) (lvl (cmpA A) (cmpA A).ac.length)) (cmpA A).k.toNat 0 = bfs (dC A (lvl A A.ac.length)) A.k.toNat 0 := by
    rw [cmp_lvl, cmpA_len]
    rfl
  rw [q, hb, Option.some.injEq, Prod.mk.injEq] at hb'
  obtain ⟨rfl, rfl⟩ := hb'
  rw [e', e]
  show oA A.k.toNat R (M.map (aN (cmpA A))) = ⟨(A.k.toNat : Int), _, (M.map (aN A)).map (!·)⟩
  unfold oA
  rw [List.map_map]
  congr 1
  exact List.map_congr_left (fun s hs => cmp_a (ha s hs))
theorem cmp_run (A : Aut) (s : Nat) (u : List Nat) : wrun (dN (cmpA A)) s u = wrun (dN A) s u := rfl
/-- Not's language. -/
theorem not_lang {A : Aut} (G : Good A) {u : List Nat} (hu : Lk A.k.toNat u) : acW (notA A) 0 u = !acW A 0 u ∧ (notA A).k = A.k := by
  have h0 := G.n1
  have hk := G.kn
  obtain ⟨M, N, hb, ha, e⟩ := rch_oA G (s := 0) (by omega) (fun s => !aN A s)
  have en : notA A = oA A.k.toNat N (M.map (fun s => !aN A s)) := by unfold notA; rw [if_pos (chkA_ok G)]; exact e
  obtain ⟨b1, b2⟩ := bfs_sure ⟨hk.1, hk.2.1⟩ hb
  have hr := b1.run b2 (M.map (fun s => !aN A s)) u b1.first hu
  rw [← en] at hr
  refine ⟨?_, by rw [en]; exact hk.2.2⟩
  unfold acW
  obtain ⟨i, hi⟩ : ∃ i, wrun (dN (notA A)) 0 u = i := ⟨_, rfl⟩
  rw [hi] at hr ⊢
  have : aN (notA A) i = !aN A (wrun (dN A) 0 u) := by
    rw [en]
    unfold oA
    simp only [aN, List.getD_eq_getElem?_getD, List.getElem?_map, hr]
    rfl
  exact this
/-- The minimal automaton of what is not accepted. -/
theorem mn_not {A : Aut} (G : Good A) : mnA (notA A) = cmpA (mnA A) := by
  have h0 := G.n1
  rw [← mn_cmp G]
  have gn := (good_re G).2.2.2
  have ek := (not_lang G (Lk.nil _)).2
  refine mn_eq gn (cmp_good G) ek (fun v hv => ?_)
  rw [ek] at hv
  rw [(not_lang G hv).1]
  unfold acW
  rw [cmp_run, cmp_a (wrun_lt G (by omega) hv)]
end Go.Proofs.Ytggheiblgghpkaa
