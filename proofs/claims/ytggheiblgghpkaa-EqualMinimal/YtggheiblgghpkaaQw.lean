/- Pure: what is left behind a word, and behind two. -/
import Derived.Test.YtggheiblgghpkaaQu
namespace Go.Proofs.Ytggheiblgghpkaa
set_option linter.unusedVariables false

theorem getD_has {S : Type} {l : List S} {i : Nat} {x s : S} (h : l[i]? = some s) : l.getD i x = s := by
  rw [List.getD_eq_getElem?_getD, h]; rfl
theorem oA_to {S : Type} [DecidableEq S] {d : S → Nat → S} {k : Nat} (hk : 1 ≤ k ∧ k ≤ 8) {x : S} {M : List S} {N : List Nat} (h : bfs d k x = some (M, N)) (l : List Bool) (z : S) {i c : Nat} (hi : i < M.length) (hc : c < k) : dN (oA k N l) i c < M.length ∧ M.getD (dN (oA k N l) i c) z = d (M.getD i z) c := by
  obtain ⟨hB, hl⟩ := bfs_sure hk h
  obtain ⟨s, a, b⟩ := hB.at hl hi hc
  rw [oA_d, getD_has a, getD_has b]
  exact ⟨(List.getElem?_eq_some_iff.1 b).1, rfl⟩
theorem oA_go {S : Type} [DecidableEq S] {d : S → Nat → S} {k : Nat} (hk : 1 ≤ k ∧ k ≤ 8) {x : S} {M : List S} {N : List Nat} (h : bfs d k x = some (M, N)) (l : List Bool) (z : S) : ∀ (u : List Nat) (i : Nat), (∀ c ∈ u, c < k) → i < M.length → goN (oA k N l) i u < M.length ∧ M.getD (goN (oA k N l) i u) z = u.foldl d (M.getD i z) := by
  intro u
  induction u with
  | nil => intro i _ hi; exact ⟨hi, rfl⟩
  | cons c u ih =>
    intro i hc hi
    obtain ⟨a, b⟩ := oA_to hk h l z hi (hc c (by simp))
    obtain ⟨a2, b2⟩ := ih (dN (oA k N l) i c) (fun c' h' => hc c' (by simp [h'])) a
    refine ⟨a2, ?_⟩
    show M.getD (goN (oA k N l) (dN (oA k N l) i c) u) z = u.foldl d (d (M.getD i z) c)
    rw [b2, b]
theorem oA_acc {k : Int} {N : List Nat} {M : List Nat} {acc : Nat → Bool} {i : Nat} (hi : i < M.length) : aN (oA k N (M.map acc)) i = acc (M.getD i 0) := by
  unfold aN oA
  simp [List.getD_eq_getElem?_getD, List.getElem?_map, List.getElem?_eq_getElem hi]
theorem goN_app (A : Aut) (s : Nat) (u v : List Nat) : goN A s (u ++ v) = goN A (goN A s u) v := by unfold goN; rw [List.foldl_append]
theorem lets_app (u v : ByteArray) : lets (u ++ v) = lets u ++ lets v := by
  unfold lets
  rw [← List.map_append]
  congr 1
/-- What Behind answers. -/
noncomputable def bhA (A : Aut) (b : ByteArray) : Aut := if cwE A b = 0 then rch A 0 (fun s => aN A (goN A s (lets b))) else zAut
theorem cwE_letters {A : Aut} (G : Good A) {b : ByteArray} (h : cwE A b = 0) : ∀ c ∈ lets b, c < A.k.toNat := by
  intro c hc
  have := (cwE_good h).2.lt_all c hc
  have := G.kn.2.2
  omega
theorem map_getD {S T : Type} (M : List S) (z : S) (f : S → T) : (List.range M.length).map (fun i => f (M.getD i z)) = M.map f := by
  apply List.ext_getElem?
  intro i
  rw [List.getElem?_map, List.getElem?_map]
  by_cases h : i < M.length
  · rw [List.getElem?_range h, List.getElem?_eq_getElem h]; simp [List.getD_eq_getElem?_getD, h]
  · rw [List.getElem?_eq_none (by simp; omega), List.getElem?_eq_none (by omega)]; rfl
/-- From where words of an automaton in order lead to accepted states. -/
def abv (R : Aut) (l : List Nat) : List Bool := (List.range R.ac.length).map fun s => aN R (goN R s l)
theorem abv_nil (R : Aut) : abv R [] = R.ac := range_map_get
theorem abv_len (R : Aut) (l : List Nat) : (abv R l).length = R.ac.length := by simp [abv]
theorem abv_cons (R : Aut) (G : Good R) {c : Nat} (hc : (c : Int) < R.k) (l : List Nat) : (List.range R.ac.length).map (fun s => aN ⟨R.k, R.nx, abv R l⟩ (dN R s c)) = abv R (c :: l) := by
  unfold abv
  refine List.map_congr_left fun s hs => ?_
  have h := (G.at (List.mem_range.1 hs) hc).2.2
  show ((List.range R.ac.length).map fun s => aN R (goN R s l)).getD (dN R s c) false = aN R (goN R (dN R s c) l)
  rw [List.getD_eq_getElem?_getD, List.getElem?_map, List.getElem?_range h]
  rfl
theorem bh_abv {A : Aut} (G : Good A) {b : ByteArray} (h : cwE A b = 0) : (⟨(reA A).k, (reA A).nx, abv (reA A) (lets b)⟩ : Aut) = bhA A b := by
  have K : 1 ≤ A.k.toNat ∧ A.k.toNat ≤ 8 := ⟨G.kn.1, G.kn.2.1⟩
  obtain ⟨M, N, hb, hall, e1⟩ := rch_oA G (show 0 < A.ac.length from G.n1) (aN A)
  obtain ⟨M2, N2, hb2, _, e2⟩ := rch_oA G (show 0 < A.ac.length from G.n1) (fun s => aN A (goN A s (lets b)))
  rw [hb] at hb2
  simp only [Option.some.injEq, Prod.mk.injEq] at hb2
  obtain ⟨rfl, rfl⟩ := hb2
  unfold bhA reA
  rw [if_pos h, if_pos (chkA_ok G), e1, e2]
  show oA (A.k.toNat : Int) N (abv (oA A.k.toNat N (M.map (aN A))) (lets b)) = _
  congr 1
  unfold abv
  rw [show (oA A.k.toNat N (M.map (aN A))).ac.length = M.length by simp [oA], ← map_getD M 0 (fun s => aN A (goN A s (lets b)))]
  refine List.map_congr_left fun i hi => ?_
  have hi' := List.mem_range.1 hi
  obtain ⟨q1, q2⟩ := oA_go K hb (M.map (aN A)) 0 (lets b) i (cwE_letters G h) hi'
  rw [oA_acc q1, q2]
  rfl
theorem chk_app {k : Int} {u v : ByteArray} (hu : chk k u = 0) (hv : chk k v = 0) : chk k (u ++ v) = 0 := by
  unfold chk at hu hv ⊢
  by_cases h : k < 1 ∨ 8 < k
  · rw [if_pos h] at hu; cases hu
  · rw [if_neg h] at hu hv ⊢
    by_cases h1 : u.data.toList.all (letterAt k) = true
    · by_cases h2 : v.data.toList.all (letterAt k) = true
      · rw [if_pos]
        simp only [ByteArray.data_append, Array.toList_append, List.all_append, h1, h2]
        rfl
      · rw [if_neg h2] at hv; cases hv
    · rw [if_neg h1] at hu; cases hu
theorem cwE_eq {A : Aut} (G : Good A) (b : ByteArray) : cwE A b = chk A.k b := by unfold cwE; rw [if_pos (chkA_ok G)]
theorem oA_k (k : Int) (N : List Nat) (l : List Bool) : (oA k N l).k = k := rfl
theorem quot {A : Aut} (G : Good A) {u v : ByteArray} (hu : cwE A u = 0) (hv : cwE A v = 0) : Good (ahA A u) ∧ Good (bhA A v) ∧ cwE A (u ++ v) = 0 ∧ cwE (ahA A u) v = 0 ∧ cwE (bhA A v) u = 0 ∧ ahA (ahA A u) v = ahA A (u ++ v) ∧ bhA (bhA A v) u = bhA A (u ++ v) := by
  have K : 1 ≤ A.k.toNat ∧ A.k.toNat ≤ 8 := ⟨G.kn.1, G.kn.2.1⟩
  have kI := G.kn.2.2
  have h0 : 0 < A.ac.length := G.n1
  have cu := cwE_letters G hu
  have cv := cwE_letters G hv
  have su : goN A 0 (lets u) < A.ac.length := goN_lt G h0 _ ((cwE_good hu).2.lt_all)
  obtain ⟨M, N, hb, hall, e1⟩ := rch_oA G su (aN A)
  obtain ⟨M0, N0, hb0, hall0, e2⟩ := rch_oA G h0 (fun s => aN A (goN A s (lets v)))
  have eP : ahA A u = oA A.k.toNat N (M.map (aN A)) := by unfold ahA; rw [if_pos hu, e1]
  have eR : bhA A v = oA A.k.toNat N0 (M0.map fun s => aN A (goN A s (lets v))) := by unfold bhA; rw [if_pos hv, e2]
  have GP : Good (ahA A u) := by rw [eP]; exact ord_good K hb (by simp)
  have GR : Good (bhA A v) := by rw [eR]; exact ord_good K hb0 (by simp)
  have cuv : cwE A (u ++ v) = 0 := by rw [cwE_eq G] at hu hv ⊢; exact chk_app hu hv
  have cpv : cwE (ahA A u) v = 0 := by rw [cwE_eq GP, eP, oA_k, kI, ← cwE_eq G]; exact hv
  have cru : cwE (bhA A v) u = 0 := by rw [cwE_eq GR, eR, oA_k, kI, ← cwE_eq G]; exact hu
  refine ⟨GP, GR, cuv, cpv, cru, ?_, ?_⟩
  · have e3 : ahA (ahA A u) v = rch (ahA A u) (goN (ahA A u) 0 (lets v)) (aN (ahA A u)) := by rw [ahA, if_pos cpv]
    rw [e3]
    rw [eP]
    obtain ⟨hB, hl⟩ := bfs_sure K hb
    have hM0 : 0 < M.length := (List.getElem?_eq_some_iff.1 hB.first).1
    obtain ⟨q1, q2⟩ := oA_go K hb (M.map (aN A)) 0 (lets v) 0 cv hM0
    rw [getD_has hB.first] at q2
    obtain ⟨j, hj⟩ : ∃ j, goN (oA A.k.toNat N (M.map (aN A))) 0 (lets v) = j := ⟨_, rfl⟩
    rw [hj] at q1 q2 ⊢
    have hm := bfs_map (d := dN A) (e := dN (oA A.k.toNat N (M.map (aN A)))) K.1 (fun i => M.getD i 0) (fun i => i < M.length) (fun t c ht hc => (oA_to K hb _ 0 ht hc).1)
      (fun a b ha hb' e => by
        rw [List.getD_eq_getElem?_getD, List.getD_eq_getElem?_getD, List.getElem?_eq_getElem ha, List.getElem?_eq_getElem hb'] at e
        exact (List.getElem?_inj ha hB.nodup).1 (by rw [List.getElem?_eq_getElem ha, List.getElem?_eq_getElem hb']; exact congrArg some e))
      (fun t c ht hc => (oA_to K hb _ 0 ht hc).2) (x := goN A 0 (lets (u ++ v))) (y := j) q1 (by
        rw [lets_app, goN_app]
        exact q2)
    unfold ahA rch
    rw [if_pos cuv, hm, show (oA A.k.toNat N (M.map (aN A))).k.toNat = A.k.toNat from Int.toNat_natCast _]
    cases hr : bfs (dN (oA A.k.toNat N (M.map (aN A)))) A.k.toNat j with
    | none => rfl
    | some r =>
      obtain ⟨M', N'⟩ := r
      have hall' := bgo_all (e := dN (oA A.k.toNat N (M.map (aN A)))) K.1 (fun i => i < M.length) (fun t c ht hc => (oA_to K hb _ 0 ht hc).1) 32768 [j] [] M' N' (fun t q => by simp at q; rw [q]; exact q1) hr
      simp only [Option.map_some]
      rw [oA_k, kI, List.map_map]
      congr 1
      refine List.map_congr_left fun i hi => ?_
      exact oA_acc (hall' i hi)
  · have e3 : bhA (bhA A v) u = rch (bhA A v) 0 (fun s => aN (bhA A v) (goN (bhA A v) s (lets u))) := by rw [bhA, if_pos cru]
    rw [e3]
    rw [eR, ord_rch K hb0]
    obtain ⟨M1, N1, hb1, _, e4⟩ := rch_oA G h0 (fun s => aN A (goN A s (lets (u ++ v))))
    rw [hb0] at hb1
    simp only [Option.some.injEq, Prod.mk.injEq] at hb1
    obtain ⟨rfl, rfl⟩ := hb1
    have e5 : bhA A (u ++ v) = oA A.k.toNat N0 (M0.map fun s => aN A (goN A s (lets (u ++ v)))) := by unfold bhA; rw [if_pos cuv, e4]
    rw [e5]
    congr 1
    rw [← map_getD M0 0 (fun s => aN A (goN A s (lets (u ++ v))))]
    refine List.map_congr_left fun i hi => ?_
    obtain ⟨q1, q2⟩ := oA_go K hb0 (M0.map fun s => aN A (goN A s (lets v))) 0 (lets u) i cu (List.mem_range.1 hi)
    rw [oA_acc q1, q2, lets_app, goN_app]
    rfl
end Go.Proofs.Ytggheiblgghpkaa
