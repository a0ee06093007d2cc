/- E30 Lj Ll E31 Lr, in one text. -/
import Derived.Test.YthmnoepjkobcmabW5
import Derived.Test.YthmnoepjkobcmabW4
import Derived.Deep.RegionHeld3
import Derived.OwnWalk
import Derived.Test.YthmnoepjkobcmabW1
import Derived.Lib.Bytealg
namespace Go.Proofs.Ythmnoepjkobcmab
set_option linter.unusedVariables false

theorem cl_lang {A : Aut} (G : Good A) {u v : List Nat} (hu : Lk A.k.toNat u) (hv : Lk A.k.toNat v) : cl A (wrun (dN A) 0 u) = cl A (wrun (dN A) 0 v) ↔ ∀ z, Lk A.k.toNat z → acW A 0 (u ++ z) = acW A 0 (v ++ z) := by
  have h0 := G.n1
  rw [cl_word G (wrun_lt G (by omega) hu) (wrun_lt G (by omega) hv)]
  constructor
  · intro h z hz
    rw [acW_app, acW_app]; exact h z hz
  · intro h z hz
    have := h z hz
    rw [acW_app, acW_app] at this; exact this
theorem aN_cl {A : Aut} (G : Good A) {s : Nat} (hs : s < A.ac.length) : aN A (cl A s) = aN A s := (cl_word G (cl_lt hs) hs).1 (cl_cl hs) [] (Lk.nil _)
open Classical in
/-- From the classes of the one to those of the other one, by words. -/
noncomputable def phi (A B : Aut) (t : Nat) : Nat := if h : ∃ u, Lk A.k.toNat u ∧ t = cl B (wrun (dN B) 0 u) then cl A (wrun (dN A) 0 h.choose) else 0
theorem phi_at {A B : Aut} (G : Good A) (H : Good B) (hk : A.k = B.k) (h : ∀ v, Lk A.k.toNat v → acW A 0 v = acW B 0 v) {u : List Nat} (hu : Lk A.k.toNat u) : phi A B (cl B (wrun (dN B) 0 u)) = cl A (wrun (dN A) 0 u) := by
  unfold phi
  have hex : ∃ u', Lk A.k.toNat u' ∧ cl B (wrun (dN B) 0 u) = cl B (wrun (dN B) 0 u') := ⟨u, hu, rfl⟩
  rw [dif_pos hex]
  obtain ⟨h1, h2⟩ := hex.choose_spec
  have h3 := (cl_lang H (by rw [← hk]; exact hu) (by rw [← hk]; exact h1)).1 h2
  refine ((cl_lang G hu h1).2 (fun z hz => ?_)).symm
  rw [h _ (hu.app hz), h _ (h1.app hz)]
  exact h3 z (by rw [← hk]; exact hz)
/-- One language: one minimal automaton. -/
theorem mn_eq {A B : Aut} (G : Good A) (H : Good B) (hk : A.k = B.k) (h : ∀ v, Lk A.k.toNat v → acW A 0 v = acW B 0 v) : mnA A = mnA B := by
  have gk := G.kn
  have h0 := G.n1
  have h1 := H.n1
  have kk : B.k.toNat = A.k.toNat := by rw [hk]
  obtain ⟨M, R, hb, b1, b2, ha, e, _⟩ := mn_parts H
  obtain ⟨M', R', hb', b1', b2', ha', e', _⟩ := mn_parts G
  rw [kk] at hb e
  let P : Nat → Prop := fun t => ∃ u, Lk A.k.toNat u ∧ t = cl B (wrun (dN B) 0 u)
  have stepB : ∀ {u : List Nat} {c : Nat}, Lk A.k.toNat u → c < A.k.toNat → dC B (lvl B B.ac.length) (cl B (wrun (dN B) 0 u)) c = cl B (wrun (dN B) 0 (u ++ [c])) := fun {u c} hu hc => by
    have hl := wrun_lt H (s := 0) (by omega) (by rw [kk]; exact hu)
    rw [dC_cl, wrun_app]
    exact cl_d H (cl_lt hl) hl (by rw [kk]; exact hc) (cl_cl hl)
  have stepA : ∀ {u : List Nat} {c : Nat}, Lk A.k.toNat u → c < A.k.toNat → dC A (lvl A A.ac.length) (cl A (wrun (dN A) 0 u)) c = cl A (wrun (dN A) 0 (u ++ [c])) := fun {u c} hu hc => by
    have hl := wrun_lt G (s := 0) (by omega) hu
    rw [dC_cl, wrun_app]
    exact cl_d G (cl_lt hl) hl hc (cl_cl hl)
  have hP : ∀ t c, P t → c < A.k.toNat → P (dC B (lvl B B.ac.length) t c) := by
    rintro t c ⟨u, hu, rfl⟩ hc
    exact ⟨u ++ [c], hu.snoc hc, stepB hu hc⟩
  have hP0 : P 0 := ⟨[], Lk.nil _, (cl_zero (by omega)).symm⟩
  have hmap := bfs_map (d := dC A (lvl A A.ac.length)) (e := dC B (lvl B B.ac.length)) gk.1 (phi A B) P hP (by
    rintro a b ⟨u, hu, rfl⟩ ⟨v, hv, rfl⟩ he
    rw [phi_at G H hk h hu, phi_at G H hk h hv] at he
    refine (cl_lang H (by rw [kk]; exact hu) (by rw [kk]; exact hv)).2 (fun z hz => ?_)
    rw [kk] at hz
    rw [← h _ (hu.app hz), ← h _ (hv.app hz)]
    exact (cl_lang G hu hv).1 he z hz) (by
    rintro t c ⟨u, hu, rfl⟩ hc
    rw [stepB hu hc, phi_at G H hk h (hu.snoc hc), phi_at G H hk h hu, stepA hu hc]) (x := 0) (y := 0) hP0 (by
    have := phi_at G H hk h (Lk.nil _)
    rw [wrun_nil, wrun_nil, cl_zero (by omega), cl_zero (by omega)] at this
    exact this)
  rw [hb, hb'] at hmap
  simp only [Option.map_some, Option.some.injEq, Prod.mk.injEq] at hmap
  obtain ⟨m1, m2⟩ := hmap
  rw [e', e, m1, m2, List.map_map]
  congr 1
  refine List.map_congr_left (fun t ht => ?_)
  have hPt : P t := bgo_all gk.1 P hP 32768 [0] [] M R (fun t q => by simp at q; rw [q]; exact hP0) hb t ht
  obtain ⟨u, hu, rfl⟩ := hPt
  show aN A (phi A B _) = _
  rw [phi_at G H hk h hu, aN_cl G (wrun_lt G (by omega) hu), aN_cl H (wrun_lt H (by omega) (by rw [kk]; exact hu))]
  exact h u hu
/-- Each state of what a search made is met by a word. -/
theorem BI.word {S : Type} [DecidableEq S] {d : S → Nat → S} {k : Nat} {x : S} {M : List S} {N : List Nat} (hk : 1 ≤ k) (h : BI d k x M N) (l : List Bool) : ∀ j, j < M.length → ∃ u, Lk k u ∧ wrun (dN (oA k N l)) 0 u = j := by
  intro j
  induction j using Nat.strongRecOn with
  | ind j ih =>
    intro hj
    by_cases z : 0 < j
    · obtain ⟨p, h1, h2, _⟩ := h.fresh j z hj
      obtain ⟨u, hu, e⟩ := ih (p / k) h2 (by omega)
      refine ⟨u ++ [p % k], hu.snoc (Nat.mod_lt _ (by omega)), ?_⟩
      rw [wrun_app, e]
      show dN (oA k N l) (p / k) (p % k) = j
      rw [oA_d, Nat.div_add_mod', List.getD_eq_getElem?_getD, h1]
      rfl
    · exact ⟨[], Lk.nil _, by rw [wrun_nil]; omega⟩
theorem mn_word {A : Aut} (G : Good A) {s : Nat} (hs : s < (mnA A).ac.length) : ∃ u, Lk A.k.toNat u ∧ wrun (dN (mnA A)) 0 u = s := by
  obtain ⟨M, R, hb, b1, b2, ha, e, _⟩ := mn_parts G
  rw [e] at hs ⊢
  exact b1.word G.kn.1 _ s (by simpa [oA] using hs)
/-- The minimal automaton's minimal automaton is itself. -/
theorem mn_mn {A : Aut} (G : Good A) : mnA (mnA A) = mnA A := by
  obtain ⟨g1, g2, g3⟩ := good_mn G
  refine (mn_eq G g1 g2.symm (fun v hv => (mn_lang G hv).symm)).symm
theorem mnT_get {A : Aut} (G : Good A) : (mnT A).length = A.ac.length := by unfold mnT; rw [if_pos (chkA_ok G)]; simp
theorem mnT_id {A : Aut} (G : Good A) {s : Nat} (hs : s < (mnA A).ac.length) : (mnT (mnA A)).getD s 0 = (s : Int) := by
  obtain ⟨g1, g2, g3⟩ := good_mn G
  obtain ⟨u, hu, e⟩ := mn_word G hs
  have := (mn_to g1 (u := u) (by rw [g2]; exact hu)).1
  rw [mn_mn G, e] at this
  exact this
end Go.Proofs.Ythmnoepjkobcmab

namespace Go.Proofs.Ythmnoepjkobcmab
open Go Go.RowKit Go.Lib
set_option linter.unusedVariables false

/-- What apart answers. -/
def ApQ (A : Aut) (s t : Nat) (w : World) (e : Ending) (w' : World) : Prop := e = .returned (.tuple #[.string (apS (apO A s t)), .bool (apF (apO A s t))]) ∧ (∀ u, apO A s t = some u → u.length < A.ac.length) ∧ Below w.heap.size w w'

/-- In the midst of a node's letters. -/
def AIn (A : Aut) (K s t : Nat) (V : World) (qb ab g mb : Nat) (ms : Array Value) (i c : Nat) (n : Nod (Nat × Nat)) (wr : World) : Prop := ∃ (Q : List (Nod (Nat × Nat))) (f : List Nat) (r e : Nat → Nat) (vq : Value), AM V qb ab g A.ac.length (nC f) Q.length (Q.flatMap mtC) vq wr ∧ AP A K s t Q i c f r e ∧ Q[i]? = some n ∧ (∀ (j : Nat) (m : Nod (Nat × Nat)), j < i → Q[j]? = some m → sx A A m.p = false) ∧ wr.heap[mb]? = some (.cells ms 117 (0, 0)) ∧ vq.ownBlock ≠ some mb
theorem AIn.step {A : Aut} {K s t : Nat} {V : World} {qb ab g mb : Nat} {ms : Array Value} {i c : Nat} {n : Nod (Nat × Nat)} {w y y3 : World} {Q : List (Nod (Nat × Nat))} {f : List Nat} {r e : Nat → Nat} {vq : Value}
    (hA : AM V qb ab g A.ac.length (nC f) Q.length (Q.flatMap mtC) vq w) (hP : AP A K s t Q i c f r e) (hn : Q[i]? = some n) (hf : ∀ (j : Nat) (m : Nod (Nat × Nat)), j < i → Q[j]? = some m → sx A A m.p = false) (hm : w.heap[mb]? = some (.cells ms 117 (0, 0))) (hv : vq.ownBlock ≠ some mb)
    (hc : c < K) (hx : dN A n.p.1 c < A.ac.length) (hy : dN A n.p.2 c < A.ac.length) (hb : Below w.heap.size w y)
    (h : MtR V qb ab g A.ac.length r Q.length (Q.flatMap mtC) (dN A n.p.1 c) (dN A n.p.2 c) [.int .i64 (dN A n.p.1 c : Nat), .int .i64 (dN A n.p.2 c : Nat), .int .i64 (i : Nat), .int .u8 (97 + (c : Int))] vq y y3) : AIn A K s t V qb ab g mb ms i (c + 1) n y3 := by
  have hil := (List.getElem?_eq_some_iff.1 hn).1
  have hml := (Array.getElem?_eq_some_iff.1 hm).1
  have hmy : y.heap[mb]? = some (.cells ms 117 (0, 0)) := (hb.block _ hml).trans hm
  have nq : mb ≠ qb := fun e => by have := hA.q; rw [← e, hm] at this; cases this
  have ng : mb ≠ g := fun e => by obtain ⟨_, cur, hg⟩ := hA.blk; rw [← e, hm] at hg; cases hg
  have hs := hb.size
  have kv : ∀ vq', KPJ qb g vq vq' y y3 → y3.heap[mb]? = some (.cells ms 117 (0, 0)) ∧ vq'.ownBlock ≠ some mb := fun vq' k => ⟨(k.keep mb (by omega) nq ng hv).trans hmy, fun e => by
    rcases k.at' mb e with q | q
    · exact hv q
    · omega⟩
  rcases h with ⟨hr, f', e', vq', hu, hA', hk⟩ | ⟨hr, f', e', vq', hu, hA', hk⟩
  · exact ⟨Q, f', r, e', vq', hA', hP.old hn hx hy hr hu, hn, hf, kv vq' hk⟩
  · refine ⟨Q ++ [⟨dd A A n.p c, i, c, n.w ++ [c]⟩], f', _, e', vq', ?_, hP.new hn hc hx hy hr hu, ?_, fun j m hj hjm => ?_, kv vq' hk⟩
    · rw [List.length_append, List.flatMap_append]
      have e1 : [(⟨dd A A n.p c, i, c, n.w ++ [c]⟩ : Nod (Nat × Nat))].flatMap mtC = [.int .i64 (dN A n.p.1 c : Nat), .int .i64 (dN A n.p.2 c : Nat), .int .i64 (i : Nat), .int .u8 (97 + (c : Int))] := by
        simp [mtC, lb, dd]
      rw [e1]
      exact hA'
    · rw [List.getElem?_append_left hil]; exact hn
    · rw [List.getElem?_append_left (by omega)] at hjm; exact hf j m hj hjm

set_option maxHeartbeats 8000000 in
set_option maxRecDepth 100000 in
theorem mapart_any (v : Value) (A : Aut) (w : World) (h : AR w v A) (G : Good A) (s t : Nat) (hs : s < A.ac.length) (ht : t < A.ac.length) :
    Calls Try.prog 36 #[v, .int .i64 s, .int .i64 t] w (ApQ A s t w) := by
  obtain ⟨an, cn, aa, ca, e, k1, k2⟩ := h.is
  have hn1 := G.n1
  have hn2 := G.n2
  have HAR : Hid (∀ y, Below w.heap.size w y → AR y v A) := fun y hy => h.stay hy
  obtain ⟨ga, oa, rfl, _, _⟩ := k2.bool (i := 0) (by omega)
  have CA : Hid (∀ y i, Below w.heap.size w y → i < A.ac.length → y.cell? ⟨ga, oa + i, none⟩ = some (.bool (A.ac.getD i false))) := fun y i hy hi => by
    obtain ⟨g', o', e', _, hc'⟩ := (k2.stay hy).bool hi
    simp only [Option.some.injEq, Addr.mk.injEq] at e'
    obtain ⟨rfl, rfl, _⟩ := e'
    exact hc'
  have HG : Hid (Good A) := G
  have hk1 := G.k1
  have hk8 := G.k8
  obtain ⟨K, hK⟩ : ∃ K : Nat, A.k.toNat = K := ⟨_, rfl⟩
  have HKK : Hid (A.k = (K : Int) ∧ 1 ≤ K ∧ K ≤ 8 ∧ A.k.toNat = K) := ⟨by omega, by omega, by omega, hK⟩
  subst e
  clear h k1 k2 G hk1 hk8 hK
  obtain ⟨V, hV⟩ : ∃ V, V = w.alloc (.cells #[.int .i64 A.k, .slice an A.nx.length cn, .slice (some ⟨ga, oa, none⟩) A.ac.length ca] 25) := ⟨_, rfl⟩
  have HVE : Hid (V = w.alloc (.cells #[.int .i64 A.k, .slice an A.nx.length cn, .slice (some ⟨ga, oa, none⟩) A.ac.length ca] 25)) := hV
  have HVS : Hid (V.heap.size = w.heap.size + 1) := by show _ = _; rw [hV]; simp
  have HBV : Hid (Below w.heap.size w V) := by show Below _ _ _; rw [hV]; exact below_new _ _
  have HRV : Hid (RowAt V w.heap.size #[.int .i64 A.k, .slice an A.nx.length cn, .slice (some ⟨ga, oa, none⟩) A.ac.length ca]) := by show RowAt _ _ _; rw [hV]; exact RowAt.last _ _ _
  clear hV
  go_enter Try.func36, Try.ntmps36
  go_wp2_with fail
  rw [← HVE.out]
  obtain ⟨W2, hW2⟩ : ∃ W2, W2 = V.alloc (.cells #[.slice none 0 0] 114) := ⟨_, rfl⟩
  have hW2s : W2.heap.size = w.heap.size + 2 := by rw [hW2]; simp; have := HVS.out; omega
  have HQ2 : Hid (W2.heap[w.heap.size + 1]? = some (.cells #[.slice none 0 0] 114 (0, 0))) := by
    have := heap_alloc_last V (.cells #[.slice none 0 0] 114)
    rw [HVS.out] at this
    rw [hW2]
    exact this
  have HB2 : Hid (Below V.heap.size V W2) := by show Below _ _ _; rw [hW2]; exact below_new _ _
  rw [← hW2]
  clear hW2
  refine (alone_any A.ac.length hn2 W2).mono ?_
  rintro e w1 ⟨rfl, ho1, hb1⟩
  rw [hW2s] at ho1 ⊢
  have HM0 : Hid (AM V (w.heap.size + 1) w1.heap.size (w.heap.size + 2) A.ac.length (nC (List.range A.ac.length)) 0 [] (.slice none 0 0) (w1.alloc (.cells #[.slice (some ⟨w.heap.size + 2, 0, none⟩) A.ac.length A.ac.length] 22))) := by
    have hq := (hb1.block _ (Array.getElem?_eq_some_iff.1 HQ2.out).1).trans HQ2.out
    refine ⟨((below_new _ _).block _ (Array.getElem?_eq_some_iff.1 hq).1).trans hq, heap_alloc_last _ _, (own_mono ho1 (by have := HVS.out; omega)).alloc _, World.ownsRow_nil _ _ _ _, go_on (go_on HB2.out hb1) (below_new _ _), by have := HVS.out; omega⟩
  have HS1 : Hid (w.heap.size + 2 ≤ w1.heap.size) := by have := hb1.size; show _ ≤ _; omega
  clear ho1 hb1 hW2s HQ2 HB2
  go_wp2_with fail
  refine (meet_any V (w.heap.size + 1) w1.heap.size (w.heap.size + 2) A.ac.length hn2 (List.range A.ac.length) (fun x => x) (fun _ => 0) (UF.id _) 0 (by omega) [] (.slice none 0 0) _ HM0.out s t hs ht 0 0).mono ?_
  rintro e w2 ⟨rfl, hm2⟩
  rcases hm2 with ⟨hr, f1, e1, vq, hu, hA, hkp⟩ | ⟨hr, f1, e1, vq, hu, hA, hkp⟩
  · have hst : s = t := hr
    subst hst
    have HO : Hid (apO A s s = none) := apO_same A s
    have HB : Hid (Below w.heap.size w w2) := go_on HBV.out hA.below
    have cq : w2.cell? ⟨w.heap.size + 1, 0, none⟩ = some vq := cell_of hA.q
    obtain ⟨qa, qc, rfl⟩ := own_shape hA.que
    clear hu hA hkp hr HM0
    go_wp2_with fail
    go_loopw [11] (fun vi wr => vi = .int .i64 0 ∧ wr = w2) (fun vi _ => 0)
    case atStart => exact ⟨rfl, rfl⟩
    case round =>
      obtain ⟨rfl, rfl⟩ := hrel
      go_wp2_with fail
      go_ret2
      exact ⟨by rw [HO.out]; rfl, fun u hu => (by rw [HO.out] at hu; cases hu), HB.out⟩
  · have HAP : Hid (AP A K s t [⟨(s, t), 0, 0, []⟩] 0 0 f1 (jn (fun x => x) s t) e1) := AP.start hs ht hr hu
    have HA1 : Hid (AM V (w.heap.size + 1) w1.heap.size (w.heap.size + 2) A.ac.length (nC f1) 1 (([⟨(s, t), 0, 0, []⟩] : List (Nod (Nat × Nat))).flatMap mtC) vq w2) := hA
    clear hu hA hkp hr HM0
    go_wp2_with fail
    go_loopw [11, 12] (fun vi _ wr => ∃ (i : Nat) (Q : List (Nod (Nat × Nat))) (f : List Nat) (r e : Nat → Nat) (vq : Value), vi = .int .i64 i ∧ i ≤ Q.length ∧ AM V (w.heap.size + 1) w1.heap.size (w.heap.size + 2) A.ac.length (nC f) Q.length (Q.flatMap mtC) vq wr ∧ AP A K s t Q i 0 f r e ∧ (∀ (j : Nat) (m : Nod (Nat × Nat)), j < i → Q[j]? = some m → sx A A m.p = false)) (fun vi _ _ => 4096 - (intOf vi).toNat)
    case atStart => exact ⟨0, [⟨(s, t), 0, 0, []⟩], f1, _, e1, vq, rfl, Nat.zero_le _, HA1.out, HAP.out, fun j m hj => by omega⟩
    case round =>
      clear HAP HA1 vq
      obtain ⟨i, Q, f, r, e, vq, rfl, hiQ, hA, hP, hf⟩ := hrel
      have hQl := hP.len hs
      obtain ⟨qa, qc, rfl⟩ := own_shape hA.que
      have cq : wr.cell? ⟨w.heap.size + 1, 0, none⟩ = some (.slice qa Q.length qc) := cell_of hA.q
      have HA : Hid (AM V (w.heap.size + 1) w1.heap.size (w.heap.size + 2) A.ac.length (nC f) Q.length (Q.flatMap mtC) (.slice qa Q.length qc) wr) := hA
      have HP : Hid (AP A K s t Q i 0 f r e) := hP
      have HF : Hid (∀ (j : Nat) (m : Nod (Nat × Nat)), j < i → Q[j]? = some m → sx A A m.p = false) := hf
      by_cases hlt : i < Q.length
      · have hiI : (i : Int) < Q.length := by omega
        obtain ⟨n, hn⟩ : ∃ n, Q[i]? = some n := ⟨Q[i], List.getElem?_eq_getElem hlt⟩
        have HN : Hid (Q[i]? = some n) := hn
        obtain ⟨gq, rfl⟩ : ∃ gq, qa = some ⟨gq, 0, none⟩ := by
          rcases hA.que.2 with ⟨_, h0⟩ | ⟨g', cap', cur, hv, _⟩
          · omega
          · simp only [Value.slice.injEq] at hv
            exact ⟨g', hv.1⟩
        have c0 := que_cell hA.que hn (j := 0) (by omega)
        have c1 := que_cell hA.que hn (j := 1) (by omega)
        have c2 := que_cell hA.que hn (j := 2) (by omega)
        have c3 := que_cell hA.que hn (j := 3) (by omega)
        obtain ⟨hX, hY⟩ := hP.oks n (List.mem_of_getElem? hn)
        have HXY : Hid (n.p.1 < A.ac.length ∧ n.p.2 < A.ac.length) := ⟨hX, hY⟩
        obtain ⟨X, hXe⟩ : ∃ X, n.p.1 = X := ⟨_, rfl⟩
        obtain ⟨Y, hYe⟩ : ∃ Y, n.p.2 = Y := ⟨_, rfl⟩
        obtain ⟨Uq, hUe⟩ : ∃ Uq, n.u = Uq := ⟨_, rfl⟩
        obtain ⟨L, hLe⟩ : ∃ L, lb n = L := ⟨_, rfl⟩
        have HXE : Hid (n.p.1 = X ∧ n.p.2 = Y ∧ n.u = Uq ∧ lb n = L) := ⟨hXe, hYe, hUe, hLe⟩
        have c0' : wr.cell? ⟨gq, i * 4, none⟩ = some (.int .i64 (X : Int)) := by rw [← hXe]; exact c0
        have c1' : wr.cell? ⟨gq, i * 4 + 1, none⟩ = some (.int .i64 (Y : Int)) := by rw [← hYe]; exact c1
        have c2' : wr.cell? ⟨gq, i * 4 + 2, none⟩ = some (.int .i64 (Uq : Int)) := by rw [← hUe]; exact c2
        have c3' : wr.cell? ⟨gq, i * 4 + 3, none⟩ = some (.int .u8 L) := by rw [← hLe]; exact c3
        rw [hXe] at hX
        rw [hYe] at hY
        have hXI : (X : Int) < A.ac.length := by omega
        have hYI : (Y : Int) < A.ac.length := by omega
        clear c0 c1 c2 c3 hXe hYe hUe hLe hn hA hP hf
        go_wp2_with fail
        obtain ⟨mb, hmb⟩ : ∃ mb, wr.heap.size = mb := ⟨_, rfl⟩
        obtain ⟨wm, hwm⟩ : ∃ wm, wm = wr.alloc (.cells #[.int .i64 (X : Int), .int .i64 (Y : Int), .int .i64 (Uq : Int), .int .u8 L] 117) := ⟨_, rfl⟩
        have HAm : Hid (AM V (w.heap.size + 1) w1.heap.size (w.heap.size + 2) A.ac.length (nC f) Q.length (Q.flatMap mtC) (.slice (some ⟨gq, 0, none⟩) Q.length qc) wm) := by rw [hwm]; exact HA.out.call (below_new _ _)
        have HMB : Hid (wm.heap[mb]? = some (.cells #[.int .i64 (X : Int), .int .i64 (Y : Int), .int .i64 (Uq : Int), .int .u8 L] 117 (0, 0))) := by
          have := heap_alloc_last wr (.cells #[.int .i64 (X : Int), .int .i64 (Y : Int), .int .i64 (Uq : Int), .int .u8 L] 117)
          rw [hmb] at this
          rw [hwm]; exact this
        have HNV : Hid ((Value.slice (some ⟨gq, 0, none⟩) Q.length qc).ownBlock ≠ some mb) := fun e => by
          have := (HA.out.que.lt mb e).2
          omega
        rw [← hwm, hmb]
        clear hwm hmb c0' c1' c2' c3' cq
        have hbm := go_on HBV.out HAm.out.below
        have ca1 := CA.out wm X hbm hX
        have ca2 := CA.out wm Y hbm hY
        obtain ⟨x, hx⟩ : ∃ x, A.ac.getD X false = x := ⟨_, rfl⟩
        obtain ⟨y0, hy0⟩ : ∃ y0, A.ac.getD Y false = y0 := ⟨_, rfl⟩
        rw [hx] at ca1
        rw [hy0] at ca2
        have HSX : Hid (sx A A n.p = (x != y0)) := by show _ = _; unfold sx aN; rw [HXE.out.1, HXE.out.2.1, hx, hy0]
        have S0 : (∀ o, wm.drew.cell? ⟨w.heap.size, o, none⟩ = (#[.int .i64 A.k, .slice an A.nx.length cn, .slice (some ⟨ga, oa, none⟩) A.ac.length ca] : Array Value)[o]?) ∧ (∀ o, wm.drew.cell? ⟨mb, o, none⟩ = (#[.int .i64 (X : Int), .int .i64 (Y : Int), .int .i64 (Uq : Int), .int .u8 L] : Array Value)[o]?) ∧ wm.drew.cell? ⟨ga, oa + X, none⟩ = some (.bool x) ∧ wm.drew.cell? ⟨ga, oa + Y, none⟩ = some (.bool y0) := ⟨(HRV.out.stay HAm.out.below).cell, fun o => cell_of HMB.out, ca1, ca2⟩
        clear ca1 ca2 hx hy0 hbm
        obtain ⟨wz, hwz⟩ : ∃ wz, wm.drew = wz := ⟨_, rfl⟩
        have HAz : Hid (AM V (w.heap.size + 1) w1.heap.size (w.heap.size + 2) A.ac.length (nC f) Q.length (Q.flatMap mtC) (.slice (some ⟨gq, 0, none⟩) Q.length qc) wz) := by rw [← hwz]; exact HAm.out.call (Below.refl _ _).drew
        have HMZ : Hid (wz.heap[mb]? = some (.cells #[.int .i64 (X : Int), .int .i64 (Y : Int), .int .i64 (Uq : Int), .int .u8 L] 117 (0, 0))) := by rw [← hwz]; exact HMB.out
        by_cases hxy : x = y0
        case neg =>
          have HO : Hid (apO A s t = some n.w) := by
            show _ = _
            unfold apO
            rw [HKK.out.2.2.2]
            refine HP.out.qi.first HN.out ?_ HF.out
            rw [HSX.out]
            simpa using hxy
          have HLN : Hid (n.w.length < A.ac.length) := by
            have h1 := (HP.out.qi.leads i n HN.out).2.2
            show _ < _
            omega
          have HWO : Hid (Calls Try.prog 54 #[.slice (some ⟨gq, 0, none⟩) Q.length qc, .int .i64 i] wz fun e w' => e = .returned (.string ⟨(lB n.w).toArray⟩) ∧ Below wz.heap.size wz w') := wordOf_any V.heap.size gq qc Q K HKK.out.2.2.1 (by omega) HP.out.qi.ups i n HN.out wz HAz.out.que
          have cqz : wz.cell? ⟨w.heap.size + 1, 0, none⟩ = some (.slice (some ⟨gq, 0, none⟩) Q.length qc) := cell_of HAz.out.q
          cases x <;> cases y0 <;> first | exact absurd rfl hxy | skip
          · clear hxy
            go_region_held3 (fun y => (∀ o, y.cell? ⟨w.heap.size, o, none⟩ = (#[.int .i64 A.k, .slice an A.nx.length cn, .slice (some ⟨ga, oa, none⟩) A.ac.length ca] : Array Value)[o]?) ∧ (∀ o, y.cell? ⟨mb, o, none⟩ = (#[.int .i64 (X : Int), .int .i64 (Y : Int), .int .i64 (Uq : Int), .int .u8 L] : Array Value)[o]?) ∧ y.cell? ⟨ga, oa + X, none⟩ = some (.bool false) ∧ y.cell? ⟨ga, oa + Y, none⟩ = some (.bool true)) (first | exact S0 | assumption) (fail)
            clear S0
            rw [hwz]
            clear hwz
            go_wp2_with fail
            refine HWO.out.mono ?_
            rintro e w9 ⟨rfl, hb9⟩
            have HB9 : Hid (Below w.heap.size w w9) := go_on (go_on HBV.out HAz.out.below) hb9
            clear hb9
            go_wp2_with fail
            go_ret2
            exact ⟨by rw [HO.out]; rfl, fun u hu => (by rw [HO.out, Option.some.injEq] at hu; rw [← hu]; exact HLN.out), HB9.out⟩
          · clear hxy
            go_region_held3 (fun y => (∀ o, y.cell? ⟨w.heap.size, o, none⟩ = (#[.int .i64 A.k, .slice an A.nx.length cn, .slice (some ⟨ga, oa, none⟩) A.ac.length ca] : Array Value)[o]?) ∧ (∀ o, y.cell? ⟨mb, o, none⟩ = (#[.int .i64 (X : Int), .int .i64 (Y : Int), .int .i64 (Uq : Int), .int .u8 L] : Array Value)[o]?) ∧ y.cell? ⟨ga, oa + X, none⟩ = some (.bool true) ∧ y.cell? ⟨ga, oa + Y, none⟩ = some (.bool false)) (first | exact S0 | assumption) (fail)
            clear S0
            rw [hwz]
            clear hwz
            go_wp2_with fail
            refine HWO.out.mono ?_
            rintro e w9 ⟨rfl, hb9⟩
            have HB9 : Hid (Below w.heap.size w w9) := go_on (go_on HBV.out HAz.out.below) hb9
            clear hb9
            go_wp2_with fail
            go_ret2
            exact ⟨by rw [HO.out]; rfl, fun u hu => (by rw [HO.out, Option.some.injEq] at hu; rw [← hu]; exact HLN.out), HB9.out⟩
        case pos =>
          subst hxy
          have HSF : Hid (sx A A n.p = false) := by show _ = _; rw [HSX.out]; simp
          go_region_held3 (fun y => (∀ o, y.cell? ⟨w.heap.size, o, none⟩ = (#[.int .i64 A.k, .slice an A.nx.length cn, .slice (some ⟨ga, oa, none⟩) A.ac.length ca] : Array Value)[o]?) ∧ (∀ o, y.cell? ⟨mb, o, none⟩ = (#[.int .i64 (X : Int), .int .i64 (Y : Int), .int .i64 (Uq : Int), .int .u8 L] : Array Value)[o]?) ∧ y.cell? ⟨ga, oa + X, none⟩ = some (.bool x) ∧ y.cell? ⟨ga, oa + Y, none⟩ = some (.bool x)) (first | exact S0 | assumption) (fail)
          clear S0
          rw [hwz]
          clear hwz
          have csz := (HRV.out.stay HAz.out.below).cell
          have HI0 : Hid (AIn A K s t V (w.heap.size + 1) w1.heap.size (w.heap.size + 2) mb #[.int .i64 (X : Int), .int .i64 (Y : Int), .int .i64 (Uq : Int), .int .u8 L] i 0 n wz) := ⟨Q, f, r, e, _, HAz.out, HP.out, HN.out, HF.out, HMZ.out, HNV.out⟩
          go_wp2_with fail
          clear csz
          go_loopw [52, 13] (fun vc _ wr => ∃ c : Nat, vc = .int .i64 c ∧ c ≤ K ∧ AIn A K s t V (w.heap.size + 1) w1.heap.size (w.heap.size + 2) mb #[.int .i64 (X : Int), .int .i64 (Y : Int), .int .i64 (Uq : Int), .int .u8 L] i c n wr) (fun vc _ _ => K - (intOf vc).toNat)
          case atStart => exact ⟨0, rfl, Nat.zero_le _, HI0.out⟩
          case round =>
            clear HI0 HAz HMZ HAm HMB HNV HA HP HF HN hiI hlt hQl hiQ
            obtain ⟨c, rfl, hcK, hI⟩ := hrel
            by_cases hc : c < K
            · have hcI : (c : Int) < A.k := by have := HKK.out.1; omega
              have hc8 : c < 8 := by have := HKK.out.2.2.1; omega
              obtain ⟨Q, f, r, e, vq, hA, hP, hn, hf, hm, hv⟩ := hI
              have hQl := hP.len hs
              have hilt := (List.getElem?_eq_some_iff.1 hn).1
              have hd1 := (HG.out.at HXY.out.1 hcI).2.2
              have hd2 := (HG.out.at HXY.out.2 hcI).2.2
              have HND : Hid (∀ y y3, Below wr.heap.size wr y → MtR V (w.heap.size + 1) w1.heap.size (w.heap.size + 2) A.ac.length r Q.length (Q.flatMap mtC) (dN A n.p.1 c) (dN A n.p.2 c) [.int .i64 (dN A n.p.1 c : Nat), .int .i64 (dN A n.p.2 c : Nat), .int .i64 (i : Nat), .int .u8 (97 + (c : Int))] vq y y3 → AIn A K s t V (w.heap.size + 1) w1.heap.size (w.heap.size + 2) mb #[.int .i64 (X : Int), .int .i64 (Y : Int), .int .i64 (Uq : Int), .int .u8 L] i (c + 1) n y3) := fun y y3 hy h3 => AIn.step hA hP hn hf hm hv hc hd1 hd2 hy h3
              have HMT : Hid (∀ y, Below wr.heap.size wr y → Calls Try.prog 52 #[.agg #[.int .i64 (dN A n.p.1 c : Nat), .int .i64 (dN A n.p.2 c : Nat), .int .i64 (i : Nat), .int .u8 (97 + (c : Int))], .pointer (some ⟨w1.heap.size, 0, none⟩), .pointer (some ⟨w.heap.size + 1, 0, none⟩)] y (MtQ V (w.heap.size + 1) w1.heap.size (w.heap.size + 2) A.ac.length r Q.length (Q.flatMap mtC) (dN A n.p.1 c) (dN A n.p.2 c) [.int .i64 (dN A n.p.1 c : Nat), .int .i64 (dN A n.p.2 c : Nat), .int .i64 (i : Nat), .int .u8 (97 + (c : Int))] vq y)) := fun y hy => meet_any V _ _ _ A.ac.length hn2 f r e hP.uf Q.length (by omega) _ vq y (hA.call hy) _ _ hd1 hd2 _ _
              rw [HXE.out.1, HXE.out.2.1] at HND HMT
              rw [HXE.out.1] at hd1
              rw [HXE.out.2.1] at hd2
              have HXY' : Hid (X < A.ac.length ∧ Y < A.ac.length) := ⟨by rw [← HXE.out.1]; exact HXY.out.1, by rw [← HXE.out.2.1]; exact HXY.out.2⟩
              obtain ⟨D1, hD1⟩ : ∃ D, dN A X c = D := ⟨_, rfl⟩
              obtain ⟨D2, hD2⟩ : ∃ D, dN A Y c = D := ⟨_, rfl⟩
              have HT1 : Hid (∀ y, Below V.heap.size V y → Calls Try.prog 49 #[.agg #[.int .i64 A.k, .slice an A.nx.length cn, .slice (some ⟨ga, oa, none⟩) A.ac.length ca], .int .i64 (X : Int), .int .i64 (c : Int)] y fun e w' => e = .returned (.int .i64 (D1 : Int)) ∧ Below y.heap.size y w') := fun y hy => by rw [← hD1]; exact mstep_any _ A y (HAR.out y (go_on HBV.out hy)) HG.out X c HXY'.out.1 hcI
              have HT2 : Hid (∀ y, Below V.heap.size V y → Calls Try.prog 49 #[.agg #[.int .i64 A.k, .slice an A.nx.length cn, .slice (some ⟨ga, oa, none⟩) A.ac.length ca], .int .i64 (Y : Int), .int .i64 (c : Int)] y fun e w' => e = .returned (.int .i64 (D2 : Int)) ∧ Below y.heap.size y w') := fun y hy => by rw [← hD2]; exact mstep_any _ A y (HAR.out y (go_on HBV.out hy)) HG.out Y c HXY'.out.2 hcI
              rw [hD1, hD2] at HND HMT
              obtain ⟨Lc, hLc⟩ : ∃ Lc : Int, 97 + (c : Int) = Lc := ⟨_, rfl⟩
              rw [hLc] at HND HMT
              have hw1 : IntKind.u8.wrap (c : Int) = (c : Int) := by rw [IntKind.wrap_u8]; omega
              have hw2 : IntKind.u8.wrap (97 + (c : Int)) = Lc := by rw [IntKind.wrap_u8]; omega
              have hml := (Array.getElem?_eq_some_iff.1 hm).1
              have KK : Hid (∀ y1 y2, Below y1.heap.size y1 y2 → ((∀ o, y1.cell? ⟨w.heap.size, o, none⟩ = (#[.int .i64 A.k, .slice an A.nx.length cn, .slice (some ⟨ga, oa, none⟩) A.ac.length ca] : Array Value)[o]?) ∧ (∀ o, y1.cell? ⟨mb, o, none⟩ = (#[.int .i64 (X : Int), .int .i64 (Y : Int), .int .i64 (Uq : Int), .int .u8 L] : Array Value)[o]?) ∧ Below V.heap.size V y1 ∧ mb < y1.heap.size) → ((∀ o, y2.cell? ⟨w.heap.size, o, none⟩ = (#[.int .i64 A.k, .slice an A.nx.length cn, .slice (some ⟨ga, oa, none⟩) A.ac.length ca] : Array Value)[o]?) ∧ (∀ o, y2.cell? ⟨mb, o, none⟩ = (#[.int .i64 (X : Int), .int .i64 (Y : Int), .int .i64 (Uq : Int), .int .u8 L] : Array Value)[o]?) ∧ Below V.heap.size V y2 ∧ mb < y2.heap.size)) := fun y1 y2 hy h => ⟨((HRV.out.stay h.2.2.1).stay hy).cell, fun o => (below_cellJ hy h.2.2.2).trans (h.2.1 o), go_on h.2.2.1 hy, Nat.lt_of_lt_of_le h.2.2.2 hy.size⟩
              have KE : Hid (∀ y3, AIn A K s t V (w.heap.size + 1) w1.heap.size (w.heap.size + 2) mb #[.int .i64 (X : Int), .int .i64 (Y : Int), .int .i64 (Uq : Int), .int .u8 L] i (c + 1) n y3 → ((∀ o, y3.cell? ⟨w.heap.size, o, none⟩ = (#[.int .i64 A.k, .slice an A.nx.length cn, .slice (some ⟨ga, oa, none⟩) A.ac.length ca] : Array Value)[o]?) ∧ (∀ o, y3.cell? ⟨mb, o, none⟩ = (#[.int .i64 (X : Int), .int .i64 (Y : Int), .int .i64 (Uq : Int), .int .u8 L] : Array Value)[o]?) ∧ Below V.heap.size V y3 ∧ mb < y3.heap.size)) := fun y3 h3 => by
                obtain ⟨Q', f', r', e', vq', hA', _, _, _, hm', _⟩ := h3
                exact ⟨(HRV.out.stay hA'.below).cell, fun o => cell_of hm', hA'.below, (Array.getElem?_eq_some_iff.1 hm').1⟩
              have S0 : (∀ o, wr.drew.cell? ⟨w.heap.size, o, none⟩ = (#[.int .i64 A.k, .slice an A.nx.length cn, .slice (some ⟨ga, oa, none⟩) A.ac.length ca] : Array Value)[o]?) ∧ (∀ o, wr.drew.cell? ⟨mb, o, none⟩ = (#[.int .i64 (X : Int), .int .i64 (Y : Int), .int .i64 (Uq : Int), .int .u8 L] : Array Value)[o]?) ∧ Below V.heap.size V wr.drew ∧ mb < wr.drew.heap.size := ⟨(HRV.out.stay hA.below).cell, fun o => cell_of hm, hA.below.drew, hml⟩
              clear hA hP hn hf hm hv hd1 hd2 hD1 hD2 hLc hml
              go_wp2_with fail
              go_region_held3 (fun y => (∀ o, y.cell? ⟨w.heap.size, o, none⟩ = (#[.int .i64 A.k, .slice an A.nx.length cn, .slice (some ⟨ga, oa, none⟩) A.ac.length ca] : Array Value)[o]?) ∧ (∀ o, y.cell? ⟨mb, o, none⟩ = (#[.int .i64 (X : Int), .int .i64 (Y : Int), .int .i64 (Uq : Int), .int .u8 L] : Array Value)[o]?) ∧ Below V.heap.size V y ∧ mb < y.heap.size) (first | exact S0 | assumption | exact KK.out _ _ (by assumption) (by assumption)) (first
                | (go_at_call 52; refine (HMT.out _ (by first | exact go_on (go_on (Below.refl _ _).drew hy1) hy2 | exact go_on (go_on (Below.refl _ _).drew hy2) hy1)).mono ?_; rintro e y3 ⟨rfl, hm3⟩; have hI3 := HND.out _ y3 (by first | exact go_on (go_on (Below.refl _ _).drew hy1) hy2 | exact go_on (go_on (Below.refl _ _).drew hy2) hy1) hm3; have HI3 : Hid (AIn A K s t V (w.heap.size + 1) w1.heap.size (w.heap.size + 2) mb #[.int .i64 (X : Int), .int .i64 (Y : Int), .int .i64 (Uq : Int), .int .u8 L] i (c + 1) n y3) := hI3; have hS3 := KE.out y3 hI3; clear hm3 hI3)
                | (go_at_call_of 49 (Value.int IntKind.i64 (X : Int)); refine (HT1.out _ (And.left (And.right (And.right (by assumption))))).mono ?_; rintro e y1 ⟨rfl, hy1⟩)
                | (go_at_call_of 49 (Value.int IntKind.i64 (Y : Int)); refine (HT2.out _ (And.left (And.right (And.right (by assumption))))).mono ?_; rintro e y2 ⟨rfl, hy2⟩))
              all_goals (
                go_wp2_with fail
                go_roundw
                case rel => exact ⟨c + 1, by go_num, by omega, HI3.out⟩
                case measure => simp [intOf]; omega)
            · have hcI : ¬ (c : Int) < A.k := by have := HKK.out.1; omega
              have hcE : c = K := by omega
              obtain ⟨Q, f, r, e, vq, hA, hP, hn, hf, hm, hv⟩ := hI
              have hil := (List.getElem?_eq_some_iff.1 hn).1
              have hQl := hP.len hs
              have HEN : Hid (∃ (Q : List (Nod (Nat × Nat))) (f : List Nat) (r e : Nat → Nat) (vq : Value), i + 1 ≤ Q.length ∧ AM V (w.heap.size + 1) w1.heap.size (w.heap.size + 2) A.ac.length (nC f) Q.length (Q.flatMap mtC) vq wr ∧ AP A K s t Q (i + 1) 0 f r e ∧ (∀ (j : Nat) (m : Nod (Nat × Nat)), j < i + 1 → Q[j]? = some m → sx A A m.p = false)) := by
                refine ⟨Q, f, r, e, vq, hil, hA, ?_, fun j m hj hjm => ?_⟩
                · rw [hcE] at hP; exact hP.next
                · by_cases q : j < i
                  · exact hf j m q hjm
                  · have : j = i := by omega
                    rw [this, hn, Option.some.injEq] at hjm
                    rw [← hjm]; exact HSF.out
              have hi4 : i < 4096 := by omega
              clear hA hP hn hf hm hv hcE hil hQl
              go_wp2_with fail
              go_roundw
              case rel =>
                obtain ⟨Q, f, r, e, vq, h1, h2, h3, h4⟩ := HEN.out
                exact ⟨i + 1, Q, f, r, e, vq, by go_num, h1, h2, h3, h4⟩
              case measure => simp [intOf]; omega
      · have hiI : ¬ (i : Int) < Q.length := by omega
        have hiE : i = Q.length := by omega
        have HO : Hid (apO A s t = none) := by
          show _ = _
          unfold apO
          rw [HKK.out.2.2.2]
          refine lsh_none (HP.out.qi.none (by omega) (fun m hm => ?_))
          obtain ⟨j, hj⟩ := List.getElem?_of_mem hm
          exact HF.out j m (by have := (List.getElem?_eq_some_iff.1 hj).1; omega) hj
        have HB : Hid (Below w.heap.size w wr) := go_on HBV.out hA.below
        clear hA hP hf hiE
        go_wp2_with fail
        go_ret2
        exact ⟨by rw [HO.out]; rfl, fun u hu => (by rw [HO.out] at hu; cases hu), HB.out⟩
end Go.Proofs.Ythmnoepjkobcmab

namespace Go.Proofs.Ythmnoepjkobcmab
open Go Go.RowKit Go.Lib
set_option linter.unusedVariables false

/-- Is it a state? -/
def stO (A : Aut) (s : Int) : Prop := 0 ≤ s ∧ s < A.ac.length
instance (A : Aut) (s : Int) : Decidable (stO A s) := by unfold stO; infer_instance
/-- What Differ answers. -/
noncomputable def dfE (A : Aut) (s t : Int) : Int := if chkA A = 0 then (if stO A s ∧ stO A t then 0 else 11) else 80
noncomputable def dfO (A : Aut) (s t : Int) : Option (List Nat) := if dfE A s t = 0 then apO A s.toNat t.toNat else none
def DfQ (A : Aut) (s t : Int) (w : World) (e : Ending) (w' : World) : Prop := e = .returned (.tuple #[.string (apS (dfO A s t)), .bool (apF (dfO A s t)), .int .i64 (dfE A s t)]) ∧ (∀ u, dfO A s t = some u → u.length < A.ac.length) ∧ Below w.heap.size w w'
theorem dfE_ok {A : Aut} {s t : Int} (h : chkA A = 0) (hs : stO A s) (ht : stO A t) : dfE A s t = 0 ∧ dfO A s t = apO A s.toNat t.toNat := by
  have : dfE A s t = 0 := by unfold dfE; rw [if_pos h, if_pos ⟨hs, ht⟩]
  refine ⟨this, ?_⟩
  unfold dfO
  rw [if_pos this]
theorem dfE_range {A : Aut} {s t : Int} (h : chkA A = 0) (hs : ¬ (stO A s ∧ stO A t)) : dfE A s t = 11 ∧ dfO A s t = none := by
  have : dfE A s t = 11 := by unfold dfE; rw [if_pos h, if_neg hs]
  refine ⟨this, ?_⟩
  unfold dfO
  rw [if_neg (by rw [this]; decide)]
theorem dfE_bad {A : Aut} (s t : Int) (h : chkA A = 80) : dfE A s t = 80 ∧ dfO A s t = none := by
  have : dfE A s t = 80 := by unfold dfE; rw [if_neg (by rw [h]; decide)]
  refine ⟨this, ?_⟩
  unfold dfO
  rw [if_neg (by rw [this]; decide)]

set_option maxHeartbeats 2000000 in
set_option maxRecDepth 100000 in
theorem isState_any (v : Value) (A : Aut) (w : World) (h : AR w v A) (s : Int) (b : Bool) (hb : decide (stO A s) = b) :
    Calls Try.prog 35 #[v, .int .i64 s] w fun e w' => e = .returned (.bool b) ∧ Below w.heap.size w w' := by
  obtain ⟨an, cn, aa, ca, rfl, _, _⟩ := h.is
  have HB : Hid (decide (stO A s) = b) := hb
  clear h hb
  by_cases h0 : 0 ≤ s
  · by_cases h1 : s < A.ac.length
    · have HT : Hid (b = true) := by show _ = _; rw [← HB.out]; exact decide_eq_true ⟨h0, h1⟩
      have d0 : decide (0 ≤ s) = true := decide_eq_true h0
      have d1 : decide (s < (A.ac.length : Int)) = true := decide_eq_true h1
      clear HB
      go_enter Try.func35, Try.ntmps35
      go_wp2_with fail
      go_ret
      exact ⟨by rw [HT.out]; rfl, below_new _ _⟩
    · have HT : Hid (b = false) := by show _ = _; rw [← HB.out]; exact decide_eq_false fun q => h1 q.2
      have d0 : decide (0 ≤ s) = true := decide_eq_true h0
      have d1 : decide (s < (A.ac.length : Int)) = false := decide_eq_false h1
      clear HB
      go_enter Try.func35, Try.ntmps35
      go_wp2_with fail
      go_ret
      exact ⟨by rw [HT.out]; rfl, below_new _ _⟩
  · have HT : Hid (b = false) := by show _ = _; rw [← HB.out]; exact decide_eq_false fun q => h0 q.1
    have d0 : decide (0 ≤ s) = false := decide_eq_false h0
    clear HB
    go_enter Try.func35, Try.ntmps35
    go_wp2_with fail
    go_ret
    exact ⟨by rw [HT.out]; rfl, below_new _ _⟩

set_option maxHeartbeats 4000000 in
set_option maxRecDepth 100000 in
theorem mdiffer_any (v : Value) (A : Aut) (w : World) (h : AR w v A) (hm : A.nx.length ≤ 9223372036854775806) (hm2 : A.ac.length ≤ 9223372036854775806) (s t : Int) :
    Calls Try.prog 18 #[v, .int .i64 s, .int .i64 t] w (DfQ A s t w) := by
  obtain ⟨an, cn, aa, ca, e, k1, k2⟩ := h.is
  have HAR : Hid (∀ y, Below w.heap.size w y → AR y v A) := fun y hy => h.stay hy
  subst e
  clear h k1 k2
  have HRV : Hid (RowAt (w.alloc (.cells #[.int .i64 A.k, .slice an A.nx.length cn, .slice aa A.ac.length ca] 25)) w.heap.size #[.int .i64 A.k, .slice an A.nx.length cn, .slice aa A.ac.length ca]) := RowAt.last _ _ _
  go_enter Try.func18, Try.ntmps18
  go_wp2_with fail
  refine (acheck_any _ A _ (HAR.out _ (below_new _ _)) hm hm2).mono ?_
  rintro e w1 ⟨rfl, hb1⟩
  have HB1 : Hid (Below w.heap.size w w1) := go_on (below_new _ _) hb1
  have HR1 : Hid (RowAt w1 w.heap.size #[.int .i64 A.k, .slice an A.nx.length cn, .slice aa A.ac.length ca]) := HRV.out.stay hb1
  have cs := HR1.out.cell
  clear hb1
  rcases chkA_cases A with ⟨G, hc⟩ | ⟨G, hc⟩
  · rw [hc]
    have HC : Hid (chkA A = 0) := hc
    have HG : Hid (Good A) := G
    clear hc G
    by_cases p : stO A s
    · by_cases q : stO A t
      · obtain ⟨e1, e2⟩ := dfE_ok HC.out p q
        have HE : Hid (dfE A s t = 0 ∧ dfO A s t = apO A s.toNat t.toNat) := ⟨e1, e2⟩
        obtain ⟨p1, p2⟩ := p
        obtain ⟨q1, q2⟩ := q
        obtain ⟨x, rfl⟩ : ∃ x : Nat, s = x := ⟨s.toNat, by omega⟩
        obtain ⟨y, rfl⟩ : ∃ y : Nat, t = y := ⟨t.toNat, by omega⟩
        have I1 : Hid (∀ z, Below w.heap.size w z → Calls Try.prog 35 #[.agg #[.int .i64 A.k, .slice an A.nx.length cn, .slice aa A.ac.length ca], .int .i64 (x : Int)] z fun e w' => e = .returned (.bool true) ∧ Below z.heap.size z w') := fun z hz => isState_any _ A z (HAR.out z hz) _ _ (decide_eq_true ⟨p1, p2⟩)
        have I2 : Hid (∀ z, Below w.heap.size w z → Calls Try.prog 35 #[.agg #[.int .i64 A.k, .slice an A.nx.length cn, .slice aa A.ac.length ca], .int .i64 (y : Int)] z fun e w' => e = .returned (.bool true) ∧ Below z.heap.size z w') := fun z hz => isState_any _ A z (HAR.out z hz) _ _ (decide_eq_true ⟨q1, q2⟩)
        have hxl : x < A.ac.length := by omega
        have hyl : y < A.ac.length := by omega
        clear e1 e2 p1 p2 q1 q2
        go_wp2_with fail
        refine (I1.out w1 HB1.out).mono ?_
        rintro e w2 ⟨rfl, hb2⟩
        have HB2 : Hid (Below w.heap.size w w2) := go_on HB1.out hb2
        have HR2 : Hid (RowAt w2 w.heap.size #[.int .i64 A.k, .slice an A.nx.length cn, .slice aa A.ac.length ca]) := HR1.out.stay hb2
        have cs2 := HR2.out.cell
        clear hb2 cs
        go_wp2_with fail
        refine (I2.out w2 HB2.out).mono ?_
        rintro e w3 ⟨rfl, hb3⟩
        have HB3 : Hid (Below w.heap.size w w3) := go_on HB2.out hb3
        have cs3 := (HR2.out.stay hb3).cell
        clear hb3 cs2
        go_wp2_with fail
        refine (mapart_any _ A w3 (HAR.out w3 HB3.out) HG.out x y hxl hyl).mono ?_
        rintro e w4 ⟨rfl, hl4, hb4⟩
        have HB4 : Hid (Below w.heap.size w w4) := go_on HB3.out hb4
        have HL4 : Hid (∀ u, apO A x y = some u → u.length < A.ac.length) := hl4
        clear hb4 hl4 cs3
        go_wp2_with fail
        go_ret3
        refine ⟨?_, ?_, HB4.out⟩
        · rw [HE.out.1, HE.out.2]; rfl
        · rw [HE.out.2]; exact HL4.out
      · have HE : Hid (dfE A s t = 11 ∧ dfO A s t = none) := dfE_range HC.out (fun z => q z.2)
        have I1 : Hid (∀ z, Below w.heap.size w z → Calls Try.prog 35 #[.agg #[.int .i64 A.k, .slice an A.nx.length cn, .slice aa A.ac.length ca], .int .i64 s] z fun e w' => e = .returned (.bool true) ∧ Below z.heap.size z w') := fun z hz => isState_any _ A z (HAR.out z hz) _ _ (decide_eq_true p)
        have I2 : Hid (∀ z, Below w.heap.size w z → Calls Try.prog 35 #[.agg #[.int .i64 A.k, .slice an A.nx.length cn, .slice aa A.ac.length ca], .int .i64 t] z fun e w' => e = .returned (.bool false) ∧ Below z.heap.size z w') := fun z hz => isState_any _ A z (HAR.out z hz) _ _ (decide_eq_false q)
        clear p q
        go_wp2_with fail
        refine (I1.out w1 HB1.out).mono ?_
        rintro e w2 ⟨rfl, hb2⟩
        have HB2 : Hid (Below w.heap.size w w2) := go_on HB1.out hb2
        have cs2 := (HR1.out.stay hb2).cell
        clear hb2 cs
        go_wp2_with fail
        refine (I2.out w2 HB2.out).mono ?_
        rintro e w3 ⟨rfl, hb3⟩
        have HB3 : Hid (Below w.heap.size w w3) := go_on HB2.out hb3
        clear hb3 cs2
        go_wp2_with fail
        go_ret3
        exact ⟨by rw [HE.out.1, HE.out.2]; rfl, fun u hu => (by rw [HE.out.2] at hu; cases hu), HB3.out⟩
    · have HE : Hid (dfE A s t = 11 ∧ dfO A s t = none) := dfE_range HC.out (fun z => p z.1)
      have I1 : Hid (∀ z, Below w.heap.size w z → Calls Try.prog 35 #[.agg #[.int .i64 A.k, .slice an A.nx.length cn, .slice aa A.ac.length ca], .int .i64 s] z fun e w' => e = .returned (.bool false) ∧ Below z.heap.size z w') := fun z hz => isState_any _ A z (HAR.out z hz) _ _ (decide_eq_false p)
      clear p
      go_wp2_with fail
      refine (I1.out w1 HB1.out).mono ?_
      rintro e w2 ⟨rfl, hb2⟩
      have HB2 : Hid (Below w.heap.size w w2) := go_on HB1.out hb2
      clear hb2 cs
      go_wp2_with fail
      go_ret3
      exact ⟨by rw [HE.out.1, HE.out.2]; rfl, fun u hu => (by rw [HE.out.2] at hu; cases hu), HB2.out⟩
  · rw [hc]
    have HE : Hid (dfE A s t = 80 ∧ dfO A s t = none) := dfE_bad s t hc
    clear hc G
    go_wp2_with fail
    go_ret3
    exact ⟨by rw [HE.out.1, HE.out.2]; rfl, fun u hu => (by rw [HE.out.2] at hu; cases hu), HB1.out⟩
end Go.Proofs.Ythmnoepjkobcmab

namespace Go.Proofs.Ythmnoepjkobcmab
set_option linter.unusedVariables false

theorem act_ne {B : Aut} {u v : List Nat} (h : act B u ≠ act B v) : ∃ s, s < B.ac.length ∧ goN B s u ≠ goN B s v := by
  by_cases q : ∃ s, s < B.ac.length ∧ goN B s u ≠ goN B s v
  · exact q
  · exfalso
    refine h (tb_congr (fun i hi => ?_))
    by_cases e : goN B i u = goN B i v
    · exact e
    · exact absurd ⟨i, hi, e⟩ q
/-- Unlike elements of a minimal automaton: behind some element's word they lead from 0 to unlike states. -/
theorem syn_find {A B : Aut} (G : Good A) (hB : mnA A = B) {M : List (List Nat)} {N : List Nat} (h : Mon B M N) {u v : List Nat} (hu : Lt B.k.toNat u) (hv : Lt B.k.toNat v) (hne : mr B.k.toNat N 0 u ≠ mr B.k.toNat N 0 v) :
    ∃ p, p < M.length ∧ goN B 0 (lw B.k.toNat N p ++ u) ≠ goN B 0 (lw B.k.toNat N p ++ v) := by
  obtain ⟨g1, g2, g3⟩ := good_mn G
  rw [hB] at g1 g2
  obtain ⟨s, hs, e⟩ := act_ne (fun q => hne ((h.same hu hv).2 q))
  obtain ⟨r, hr, er⟩ := mn_word G (s := s) (by rw [hB]; exact hs)
  rw [hB] at er
  have hrl : Lt B.k.toNat r := fun c hc => by have := hr c hc; rw [g2]; exact this
  have hp := h.lt hrl h.pos
  refine ⟨mr B.k.toNat N 0 r, hp, ?_⟩
  have h0 : 0 < B.ac.length := by have := g1.n1; omega
  obtain ⟨l1, l2⟩ := h.lw _ hp
  have h1 := (h.same l1 hrl).1 l2
  have h2 : goN B 0 (lw B.k.toNat N (mr B.k.toNat N 0 r)) = s := by
    rw [← act_im B _ h0, h1, act_im B _ h0]
    exact er
  rw [goN_app, goN_app, h2]
  exact e
/-- Unlike states of a minimal automaton: Differ finds a word. -/
theorem syn_apart {A B : Aut} (G : Good A) (hB : mnA A = B) {s t : Nat} (hs : s < B.ac.length) (ht : t < B.ac.length) (hne : s ≠ t) :
    ∃ z, Lk B.k.toNat z ∧ acW B s z ≠ acW B t z ∧ dfO B s t = some z ∧ dfE B s t = 0 := by
  obtain ⟨g1, g2, g3⟩ := good_mn G
  have hmm := mn_mn G
  rw [hB] at g1 g2 hmm
  obtain ⟨r1, k1, e1⟩ := mn_word G (s := s) (by rw [hB]; exact hs)
  obtain ⟨r2, k2, e2⟩ := mn_word G (s := t) (by rw [hB]; exact ht)
  rw [hB] at e1 e2
  have hcl : cl B s ≠ cl B t := fun q => by
    have := (mn_same g1 (u := r1) (v := r2) (by rw [g2]; exact k1) (by rw [g2]; exact k2)).2 (by rw [e1, e2]; exact q)
    rw [hmm, e1, e2] at this
    exact hne this
  have hap : apO B s t ≠ none := fun q => hcl ((apO_cl g1 hs ht).1 q)
  obtain ⟨d1, d2⟩ := dfE_ok (A := B) (s := (s : Int)) (t := (t : Int)) (chkA_ok g1) ⟨by omega, by omega⟩ ⟨by omega, by omega⟩
  rw [Int.toNat_natCast, Int.toNat_natCast] at d2
  cases hz : apO B s t with
  | none => exact absurd hz hap
  | some z =>
    have hl := lsh_is hz
    exact ⟨z, hl.1, (sx_ac B B (s, t) z).1 hl.2.1, by rw [d2, hz], d1⟩
end Go.Proofs.Ythmnoepjkobcmab

namespace Go.Proofs.Ythmnoepjkobcmab
open Go Go.RowKit
set_option linter.unusedVariables false

/-- What strings.Compare answers. -/
def sc (a b : ByteArray) : Int := Lib.compareBytes a.data.toList b.data.toList
/-- Length, then letters. -/
def ord (a b : ByteArray) : Int := if a.size < b.size then -1 else if b.size < a.size then 1 else sc a b

/-- A word's bytes. -/
def wB (w : List Nat) : ByteArray := ⟨(lB w).toArray⟩
theorem wB_size (w : List Nat) : (wB w).size = w.length := by
  show (lB w).toArray.size = _
  simp [lB]
theorem lets_wB {k : Nat} (hk : k ≤ 8) {w : List Nat} (h : Lk k w) : lets (wB w) = w := by
  unfold lets wB lB
  simp only [List.map_map]
  conv => rhs; rw [← List.map_id w]
  refine List.map_congr_left (fun c hc => ?_)
  have := h c hc
  show (UInt8.ofNat (97 + c)).toNat - 97 = c
  rw [UInt8.toNat_ofNat']
  omega
theorem wB_at {w : List Nat} {i : Nat} (hi : i < (wB w).size) (h8 : Lk 8 w) : ∃ c, c ∈ w ∧ ((wB w)[i]).toNat = 97 + c := by
  have hl : i < w.length := by rw [wB_size] at hi; exact hi
  refine ⟨w[i], List.getElem_mem hl, ?_⟩
  have e : (wB w)[i] = UInt8.ofNat (97 + w[i]) := by
    show (lB w).toArray[i] = _
    simp [lB]
  have := h8 w[i] (List.getElem_mem hl)
  rw [e, UInt8.toNat_ofNat']
  omega
theorem wB_lts {k : Int} (h1 : 1 ≤ k) (h8 : k ≤ 8) {w : List Nat} (h : Lk k.toNat w) : Lts k (wB w) ∧ chk k (wB w) = 0 := by
  have h8' : Lk 8 w := fun a ha => by have := h a ha; omega
  have hL : Lts k (wB w) := fun i hi => by
    obtain ⟨c, hc, e⟩ := wB_at hi h8'
    have := h c hc
    rw [e]; omega
  refine ⟨hL, chk_ok k _ h1 h8 (fun i hi => ?_)⟩
  have := hL i hi
  simp only [letterAt, decide_eq_true_eq]
  omega
theorem Lts.lk {k : Int} {b : ByteArray} (h : Lts k b) : Lk k.toNat (lets b) := fun c hc => by have := h.lt_all c hc; omega
theorem cmp_lx : ∀ (u v : List UInt8), u.length = v.length → (∀ c ∈ u, 97 ≤ c.toNat) → (∀ c ∈ v, 97 ≤ c.toNat) → (Lib.compareBytes u v < 0 ↔ ¬ lxl (v.map fun c => c.toNat - 97) (u.map fun c => c.toNat - 97)) := by
  intro u
  induction u with
  | nil =>
    intro v hl _ _
    cases v with
    | nil => simp [Lib.compareBytes, lxl]
    | cons b v => simp at hl
  | cons a u ih =>
    intro v hl hu hv
    cases v with
    | nil => simp at hl
    | cons b v =>
      have ha := hu a (by simp)
      have hb := hv b (by simp)
      simp only [Lib.compareBytes, List.map_cons, lxl]
      by_cases q : a < b
      · have q' : a.toNat < b.toNat := UInt8.lt_iff_toNat_lt.1 q
        rw [if_pos q]
        constructor
        · intro _ z
          rcases z with z | ⟨z, _⟩ <;> omega
        · intro _; decide
      · have q' : ¬ a.toNat < b.toNat := fun z => q (UInt8.lt_iff_toNat_lt.2 z)
        rw [if_neg q]
        by_cases p : b < a
        · have p' : b.toNat < a.toNat := UInt8.lt_iff_toNat_lt.1 p
          rw [if_pos p]
          constructor
          · intro z; exact absurd z (by decide)
          · intro z; exact absurd (.inl (by omega)) z
        · have p' : ¬ b.toNat < a.toNat := fun z => p (UInt8.lt_iff_toNat_lt.2 z)
          rw [if_neg p, ih v (by simpa using hl) (fun c hc => hu c (by simp [hc])) (fun c hc => hv c (by simp [hc]))]
          constructor
          · intro z y
            rcases y with y | ⟨_, y⟩
            · omega
            · exact z y
          · intro z y
            exact z (.inr ⟨by omega, y⟩)
theorem Lts.all {k : Int} {b : ByteArray} (h : Lts k b) : ∀ c ∈ b.data.toList, 97 ≤ c.toNat := fun c hc => by
  obtain ⟨i, hi, rfl⟩ := List.mem_iff_getElem.1 hc
  have := h i (by simpa using hi)
  exact this.1
/-- Order, by letters. -/
theorem ord_sle {k : Int} {u v : ByteArray} (hu : Lts k u) (hv : Lts k v) : ord u v < 0 ↔ ¬ sle (lets v) (lets u) := by
  unfold ord sle
  rw [lets_len, lets_len]
  by_cases h1 : u.size < v.size
  · rw [if_pos h1]
    constructor
    · intro _ z; omega
    · intro _; decide
  · rw [if_neg h1]
    by_cases h2 : v.size < u.size
    · rw [if_pos h2]
      constructor
      · intro z; exact absurd z (by decide)
      · intro z; exact absurd (.inl h2) z
    · rw [if_neg h2]
      have hl : u.data.toList.length = v.data.toList.length := by
        have e1 : u.data.toList.length = u.size := by simp
        have e2 : v.data.toList.length = v.size := by simp
        omega
      show Lib.compareBytes u.data.toList v.data.toList < 0 ↔ _
      rw [cmp_lx _ _ hl hu.all hv.all]
      constructor
      · rintro z (y | ⟨_, y⟩)
        · omega
        · exact z y
      · intro z y
        exact z (.inr ⟨by omega, y⟩)
end Go.Proofs.Ythmnoepjkobcmab
