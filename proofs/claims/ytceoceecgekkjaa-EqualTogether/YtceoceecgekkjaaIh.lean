/- equal: least. -/
import Derived.Test.YtceoceecgekkjaaIg
import Derived.Test.YtceoceecgekkjaaLp
import Derived.Deep.RegionHeld3
namespace Go.Proofs.Ytceoceecgekkjaa
open Go Go.RowKit Go.Lib
set_option linter.unusedVariables false

/-- A list of pairs each of which was fresh. -/
def Vld (dec : List (Nat × Nat) → Nat × Nat → Bool) (n m : Nat) (P : List (Nat × Nat)) : Prop := ∀ (i : Nat) (p : Nat × Nat), P[i]? = some p → dec (P.take i) p = true ∧ p.1 < n ∧ p.2 < m
theorem Vld.nil (dec : List (Nat × Nat) → Nat × Nat → Bool) (n m : Nat) : Vld dec n m [] := fun i p h => by simp at h
theorem Vld.snoc {dec : List (Nat × Nat) → Nat × Nat → Bool} {n m : Nat} {P : List (Nat × Nat)} (h : Vld dec n m P) {p : Nat × Nat} (hd : dec P p = true) (h1 : p.1 < n) (h2 : p.2 < m) : Vld dec n m (P ++ [p]) := fun i q hq => by
  rcases nod_snoc hq with z | ⟨rfl, rfl⟩
  · have hl := (List.getElem?_eq_some_iff.1 z).1
    rw [List.take_append_of_le_length (by omega)]
    exact h i q z
  · rw [List.take_append_of_le_length (Nat.le_refl _), List.take_length]
    exact ⟨hd, h1, h2⟩
/-- The next node shows it, and none that was met does. -/
theorem QI.last {S : Type} {d : S → Nat → S} {k : Nat} {sh : S → Bool} {x : S} {Q : List (Nod S)} {i c : Nat} (h : QI d k sh x Q i c) {n : Nod S} (hi : Q[i]? = some n) (hk : c < k) (hs : sh (d n.p c) = true) (hf : ∀ m ∈ Q, sh m.p = false) : lsh d k sh x = some (n.w ++ [c]) := by
  have hN := h.new hi hk
  have hil := (List.getElem?_eq_some_iff.1 hi).1
  refine lsh_some (hN.found (t := Q.length) (n := ⟨d n.p c, i, c, n.w ++ [c]⟩) List.getElem?_concat_length hs (fun j m hj hm => ?_) (fun j m a hm hp => ?_))
  · rw [List.getElem?_append_left hj] at hm
    exact hf m (List.mem_of_getElem? hm)
  · rcases nod_snoc hm with z | ⟨rfl, rfl⟩
    · by_cases e : j = i
      · subst e
        rw [hi, Option.some.injEq] at z
        subst z
        exact (slt_letter _ (show c < a by omega)).1
      · exact (slt_snoc (h.ord i j n m (by omega) hi z) c a).1
    · exact sle_more _ _
/-- How far least has come. -/
structure LI (A B : Aut) (K : Nat) (sh : Nat × Nat → Bool) (dec : List (Nat × Nat) → Nat × Nat → Bool) (Q : List (Nod (Nat × Nat))) (i c : Nat) : Prop where
  qi : QI (dd A B) K sh (0, 0) Q i c
  nsh : ∀ m ∈ Q, sh m.p = false
  oks : ∀ m ∈ Q, m.p.1 < A.ac.length ∧ m.p.2 < B.ac.length
  val : Vld dec A.ac.length B.ac.length (Q.map Nod.p)
/-- What least answers. -/
def LeQ (o : Option (List Nat)) (dec : List (Nat × Nat) → Nat × Nat → Bool) (n m B0 : Nat) (w : World) (e : Ending) (w' : World) : Prop := e = .returned (.tuple #[.string (apS o), .bool (apF o)]) ∧ (∀ u, o = some u → ∃ P, Vld dec n m P ∧ u.length < P.length) ∧ Below B0 w w'
def LB (w V : World) (a b : Array Value) (vf vs : Value) : Prop := V.heap[w.heap.size]? = some (.cells a 25 (0, 0)) ∧ V.heap[w.heap.size + 1]? = some (.cells b 25 (0, 0)) ∧ V.heap[w.heap.size + 2]? = some (.cells #[vf] 56 (0, 0)) ∧ V.heap[w.heap.size + 3]? = some (.cells #[vs] 58 (0, 0))

theorem LM.mark {F : List (Nat × Nat) → (Nat → Prop) → World → Prop} {w V : World} {B0 : Nat} {E : Nat → Prop} {P : List (Nat × Nat)} {n : Nat} {qc : List Value} {gq cap : Nat} {wr : World} (h : LM F w V B0 E 0 [] P n qc (.slice (some ⟨gq, 0, none⟩) n cap) wr) : LM F w V B0 E gq qc P n qc (.slice (some ⟨gq, 0, none⟩) n cap) wr := by
  obtain ⟨O, hF, hO⟩ := h.fr
  have hown : (Value.slice (some ⟨gq, 0, none⟩) n cap).ownBlock = some gq := rfl
  refine ⟨⟨O, hF, fun b q => ⟨(hO b q).1, (hO b q).2.1, (hO b q).2.2.1, (hO b q).2.2.2.1, fun _ e => (hO b q).2.2.2.1 (by rw [hown, e])⟩⟩, fun _ => ⟨(h.que.lt gq hown).2, fun e => ?_⟩, fun o v hv => ?_, fun _ => ⟨[], by simp⟩, h.q, h.que, h.qe, h.ne, h.el, h.res, h.sz, h.below⟩
  · obtain ⟨_, cur, hc⟩ := own_blk h.que hown
    rw [e, h.q] at hc
    injection hc with hc; injection hc with _ hc _; cases hc
  · have hl := (List.getElem?_eq_some_iff.1 hv).1
    have h1 := h.que.1
    rw [h.que.cellAt o (by omega)]
    exact hv
theorem LM.unmark {F : List (Nat × Nat) → (Nat → Prop) → World → Prop} {w V : World} {B0 : Nat} {E : Nat → Prop} {gq : Nat} {rc : List Value} {P : List (Nat × Nat)} {n : Nat} {qc : List Value} {vq : Value} {wr : World} (h : LM F w V B0 E gq rc P n qc vq wr) : LM F w V B0 E 0 [] P n qc vq wr := by
  obtain ⟨O, hF, hO⟩ := h.fr
  exact ⟨⟨O, hF, fun b q => ⟨(hO b q).1, (hO b q).2.1, (hO b q).2.2.1, (hO b q).2.2.2.1, fun e => absurd rfl e⟩⟩, fun e => absurd rfl e, fun o v hv => by simp at hv, fun _ => ⟨qc, rfl⟩, h.q, h.que, h.qe, h.ne, h.el, h.res, h.sz, h.below⟩
/-- With a box more that is kept. -/
theorem LM.box {fn : Nat} {c1 c2 : Value} {nn mm : Nat} {dec : List (Nat × Nat) → Nat × Nat → Bool} {F : List (Nat × Nat) → (Nat → Prop) → World → Prop} {w V : World} {B0 : Nat} {E : Nat → Prop} {gq : Nat} {rc : List Value} {P : List (Nat × Nat)} {n : Nat} {qc : List Value} {vq : Value} {wr : World} (H : Frs fn c1 c2 nn mm dec F) (hB : B0 ≤ w.heap.size) (h : LM F w V B0 E gq rc P n qc vq wr) (o : Obj) : LM F w (wr.alloc o) B0 (fun b => E b ∨ b = wr.heap.size) gq rc P n qc vq (wr.alloc o) := by
  have hc := LM.call H hB h (below_new wr o)
  obtain ⟨O, hF0, hO0⟩ := h.fr
  have hs := h.sz
  have hql := (Array.getElem?_eq_some_iff.1 h.q).1
  refine ⟨⟨O, H.keep P O wr _ hF0 (fun b q => (below_new wr o).block b (H.lt P O wr b hF0 q)), fun b q => ⟨(hO0 b q).1, fun e => ?_, (hO0 b q).2.2⟩⟩, hc.gl, hc.hold, hc.pre, hc.q, hc.que, fun b q e => ?_, fun e => ?_, fun b e => ?_, fun b e => rfl, Nat.le_refl _, hc.below⟩
  · rcases e with e | e
    · exact (hO0 b q).2.1 e
    · have := H.lt P O wr b hF0 q
      omega
  · rcases e with e | e
    · exact h.qe b q e
    · have := (h.que.lt b q).2
      omega
  · rcases e with e | e
    · exact h.ne e
    · omega
  · rcases e with e | e
    · have := h.el b e
      simp
      omega
    · simp [e]
theorem LM.less {F : List (Nat × Nat) → (Nat → Prop) → World → Prop} {w V V' : World} {B0 : Nat} {E E' : Nat → Prop} {gq : Nat} {rc : List Value} {P : List (Nat × Nat)} {n : Nat} {qc : List Value} {vq : Value} {wr : World} (h : LM F w V' B0 E' gq rc P n qc vq wr) (hE : ∀ b, E b → E' b) (hel : ∀ b, E b → b < V.heap.size) (hre : ∀ b, E b → V'.heap[b]? = V.heap[b]?) (hsz : V.heap.size ≤ V'.heap.size) : LM F w V B0 E gq rc P n qc vq wr := by
  obtain ⟨O, hF, hO⟩ := h.fr
  exact ⟨⟨O, hF, fun b q => ⟨(hO b q).1, fun e => (hO b q).2.1 (hE b e), (hO b q).2.2⟩⟩, h.gl, h.hold, h.pre, h.q, h.que, fun b q e => h.qe b q (hE b e), fun e => h.ne (hE _ e), hel, fun b e => (h.res b (hE b e)).trans (hre b e), Nat.le_trans hsz h.sz, h.below⟩
theorem LI.old {A B : Aut} {K : Nat} {sh : Nat × Nat → Bool} {dec : List (Nat × Nat) → Nat × Nat → Bool} {Q : List (Nod (Nat × Nat))} {i c : Nat} (h : LI A B K sh dec Q i c) {n : Nod (Nat × Nat)} (hi : Q[i]? = some n) (hc : ∀ v, sh (wrun (dd A B) (dd A B n.p c) v) = true → ∃ q ∈ Q.map Nod.p, sh (wrun (dd A B) q v) = true) : LI A B K sh dec Q i (c + 1) :=
  ⟨h.qi.old hi (fun v hv => by
    obtain ⟨q, hq, hs⟩ := hc v hv
    obtain ⟨m, hm, rfl⟩ := List.mem_map.1 hq
    exact ⟨m, hm, hs⟩), h.nsh, h.oks, h.val⟩
theorem LI.new {A B : Aut} {K : Nat} {sh : Nat × Nat → Bool} {dec : List (Nat × Nat) → Nat × Nat → Bool} {Q : List (Nod (Nat × Nat))} {i c : Nat} (h : LI A B K sh dec Q i c) {n : Nod (Nat × Nat)} (hi : Q[i]? = some n) (hc : c < K) (hd : dec (Q.map Nod.p) (dd A B n.p c) = true) (h1 : (dd A B n.p c).1 < A.ac.length) (h2 : (dd A B n.p c).2 < B.ac.length) (hs : sh (dd A B n.p c) = false) : LI A B K sh dec (Q ++ [⟨dd A B n.p c, i, c, n.w ++ [c]⟩]) i (c + 1) := by
  refine ⟨h.qi.new hi hc, fun m hm => ?_, fun m hm => ?_, ?_⟩
  · rcases List.mem_append.1 hm with q | q
    · exact h.nsh m q
    · rw [List.mem_singleton.1 q]; exact hs
  · rcases List.mem_append.1 hm with q | q
    · exact h.oks m q
    · rw [List.mem_singleton.1 q]; exact ⟨h1, h2⟩
  · rw [List.map_append]
    exact h.val.snoc hd h1 h2
/-- In the midst of a node's letters. -/
def LIn (F : List (Nat × Nat) → (Nat → Prop) → World → Prop) (A B : Aut) (K : Nat) (sh : Nat × Nat → Bool) (dec : List (Nat × Nat) → Nat × Nat → Bool) (w V : World) (B0 : Nat) (E : Nat → Prop) (gq : Nat) (R : List (Nod (Nat × Nat))) (n : Nod (Nat × Nat)) (I c : Nat) (wr : World) : Prop := ∃ (Q : List (Nod (Nat × Nat))) (vq : Value), LM F w V B0 E gq (R.flatMap (emC K)) (Q.map Nod.p) Q.length (Q.flatMap (emC K)) vq wr ∧ LI A B K sh dec Q I c ∧ Q[I]? = some n ∧ ∃ T, Q = R ++ T
/-- Where it was found. -/
def LFd (F : List (Nat × Nat) → (Nat → Prop) → World → Prop) (A B : Aut) (K : Nat) (sh : Nat × Nat → Bool) (dec : List (Nat × Nat) → Nat × Nat → Bool) (w V : World) (B0 : Nat) (E : Nat → Prop) (gq : Nat) (R : List (Nod (Nat × Nat))) (wr : World) : Prop := ∃ (Q : List (Nod (Nat × Nat))) (vq : Value) (n : Nod (Nat × Nat)), LM F w V B0 E gq (R.flatMap (emC K)) (Q.map Nod.p) Q.length (Q.flatMap (emC K)) vq wr ∧ Q[Q.length - 1]? = some n ∧ Ups K Q ∧ lsh (dd A B) K sh (0, 0) = some n.w ∧ Vld dec A.ac.length B.ac.length (Q.map Nod.p) ∧ n.w.length < Q.length
theorem LIn.step {F : List (Nat × Nat) → (Nat → Prop) → World → Prop} {A B : Aut} {K : Nat} {sh : Nat × Nat → Bool} {dec : List (Nat × Nat) → Nat × Nat → Bool} {w V : World} {B0 : Nat} {E : Nat → Prop} {gq : Nat} {R : List (Nod (Nat × Nat))} {n : Nod (Nat × Nat)} {I c : Nat} {Q : List (Nod (Nat × Nat))} {y3 : World} (hL : LI A B K sh dec Q I c) (hn : Q[I]? = some n) (hT : ∃ T, Q = R ++ T) (hc : c < K) (h1 : dN A n.p.1 c < A.ac.length) (h2 : dN B n.p.2 c < B.ac.length)
    (hcov : ∀ P p, Vld dec A.ac.length B.ac.length P → p.1 < A.ac.length → p.2 < B.ac.length → dec P p = false → ∀ v, sh (wrun (dd A B) p v) = true → ∃ q ∈ P, sh (wrun (dd A B) q v) = true)
    (hm : MeR F dec w V B0 E gq (R.flatMap (emC K)) (Q.map Nod.p) Q.length (Q.flatMap (emC K)) (dN A n.p.1 c) (dN B n.p.2 c) [.int .u16 (dN A n.p.1 c : Nat), .int .u16 (dN B n.p.2 c : Nat), .int .u32 ((I * K + c : Nat) : Int)] y3) :
    ((dec (Q.map Nod.p) (dN A n.p.1 c, dN B n.p.2 c) && sh (dN A n.p.1 c, dN B n.p.2 c)) = false → LIn F A B K sh dec w V B0 E gq R n I (c + 1) y3) ∧ ((dec (Q.map Nod.p) (dN A n.p.1 c, dN B n.p.2 c) && sh (dN A n.p.1 c, dN B n.p.2 c)) = true → LFd F A B K sh dec w V B0 E gq R y3) := by
  have hil := (List.getElem?_eq_some_iff.1 hn).1
  obtain ⟨T, hT⟩ := hT
  rcases hm with ⟨hd, vq, hM⟩ | ⟨hd, vq, hM⟩
  · have e1 : (Q ++ [(⟨dd A B n.p c, I, c, n.w ++ [c]⟩ : Nod (Nat × Nat))]).map Nod.p = Q.map Nod.p ++ [(dN A n.p.1 c, dN B n.p.2 c)] := by simp [dd]
    have e2 : (Q ++ [(⟨dd A B n.p c, I, c, n.w ++ [c]⟩ : Nod (Nat × Nat))]).flatMap (emC K) = Q.flatMap (emC K) ++ [.int .u16 (dN A n.p.1 c : Nat), .int .u16 (dN B n.p.2 c : Nat), .int .u32 ((I * K + c : Nat) : Int)] := by
      rw [List.flatMap_append]; simp [emC, dd]
    have hM' : LM F w V B0 E gq (R.flatMap (emC K)) ((Q ++ [(⟨dd A B n.p c, I, c, n.w ++ [c]⟩ : Nod (Nat × Nat))]).map Nod.p) (Q ++ [(⟨dd A B n.p c, I, c, n.w ++ [c]⟩ : Nod (Nat × Nat))]).length ((Q ++ [(⟨dd A B n.p c, I, c, n.w ++ [c]⟩ : Nod (Nat × Nat))]).flatMap (emC K)) vq y3 := by
      rw [e1, e2, List.length_append]; exact hM
    rw [hd, Bool.true_and]
    refine ⟨fun hs => ⟨_, vq, hM', hL.new hn hc hd h1 h2 hs, by rw [List.getElem?_append_left hil]; exact hn, T ++ [_], by rw [← List.append_assoc, ← hT]⟩, fun hs => ⟨_, vq, ⟨dd A B n.p c, I, c, n.w ++ [c]⟩, hM', ?_, (hL.qi.new hn hc).ups, hL.qi.last hn hc hs hL.nsh, ?_, ?_⟩⟩
    · rw [List.length_append, List.length_singleton, Nat.add_sub_cancel]
      exact List.getElem?_concat_length
    · rw [e1]
      exact hL.val.snoc hd h1 h2
    · have := (hL.qi.leads I n hn).2.2
      simp
      omega
  · rw [hd, Bool.false_and]
    exact ⟨fun _ => ⟨Q, vq, hM, hL.old hn (hcov _ (dd A B n.p c) hL.val h1 h2 hd), hn, T, hT⟩, fun e => by cases e⟩

set_option maxHeartbeats 16000000 in
set_option maxRecDepth 100000 in
theorem least_any (F : List (Nat × Nat) → (Nat → Prop) → World → Prop) (dec : List (Nat × Nat) → Nat × Nat → Bool) (fn sn : Nat) (c1 c2 : Value) (g : Bool → Bool → Bool) (A B : Aut) (H : Frs fn c1 c2 A.ac.length B.ac.length dec F) (w : World) (B0 : Nat) (hB : B0 ≤ w.heap.size) (O : Nat → Prop) (hF0 : F [] O w) (hO : ∀ b, O b → B0 ≤ b)
    (va vb : Value) (hARa : ∀ z, Below B0 w z → AR z va A) (hARb : ∀ z, Below B0 w z → AR z vb B) (GA : Good A) (GB : Good B) (hkk : B.k = A.k)
    (eF : ∀ args w, (callFunc fn args).run Try.prog w = .ok (.enter fn args) w) (eS : ∀ args w, (callFunc sn args).run Try.prog w = .ok (.enter sn args) w)
    (hS : ∀ p q w, Calls Try.prog sn #[.bool p, .bool q] w fun e w' => e = .returned (.bool (g p q)) ∧ w' = w)
    (sh : Nat × Nat → Bool) (hsh : ∀ x y, sh (x, y) = g (A.ac.getD x false) (B.ac.getD y false))
    (hcov : ∀ P p, Vld dec A.ac.length B.ac.length P → p.1 < A.ac.length → p.2 < B.ac.length → dec P p = false → ∀ v, sh (wrun (dd A B) p v) = true → ∃ q ∈ P, sh (wrun (dd A B) q v) = true)
    (hlen : ∀ P, Vld dec A.ac.length B.ac.length P → P.length ≤ 16777216) :
    Calls Try.prog 36 #[va, vb, (.func (.func fn) #[] #[c1, c2]), (.func (.func sn) #[] #[])] w (LeQ (lsh (dd A B) A.k.toNat sh (0, 0)) dec A.ac.length B.ac.length B0 w) := by
  obtain ⟨an, cn, aa, ca, ea, k1, k2⟩ := (hARa w (Below.refl _ _)).is
  obtain ⟨bn, dn, ba, da, eb, l1, l2⟩ := (hARb w (Below.refl _ _)).is
  have hn1 := GA.n1
  have hn2 := GA.n2
  have hm1 := GB.n1
  have hm2 := GB.n2
  obtain ⟨ga, oa, rfl, _, _⟩ := k2.bool (i := 0) (by omega)
  obtain ⟨gb, ob, rfl, _, _⟩ := l2.bool (i := 0) (by omega)
  rw [hkk] at eb
  have CA : Hid (∀ z, Below B0 w z → ∀ i, i < A.ac.length → z.cell? ⟨ga, oa + i, none⟩ = some (.bool (A.ac.getD i false))) := fun z hz i hi => by
    obtain ⟨an', cn', aa', ca', e', _, k'⟩ := (hARa z hz).is
    rw [ea] at e'
    simp only [Value.agg.injEq, Array.mk.injEq, List.cons.injEq, Value.slice.injEq, and_true, true_and] at e'
    obtain ⟨g', o', e2, _, hc'⟩ := k'.bool hi
    rw [← e'.2.1] at e2
    simp only [Option.some.injEq, Addr.mk.injEq] at e2
    obtain ⟨rfl, rfl, _⟩ := e2
    exact hc'
  have CB : Hid (∀ z, Below B0 w z → ∀ i, i < B.ac.length → z.cell? ⟨gb, ob + i, none⟩ = some (.bool (B.ac.getD i false))) := fun z hz i hi => by
    obtain ⟨an', cn', aa', ca', e', _, k'⟩ := (hARb z hz).is
    rw [eb, hkk] at e'
    simp only [Value.agg.injEq, Array.mk.injEq, List.cons.injEq, Value.slice.injEq, and_true, true_and] at e'
    obtain ⟨g', o', e2, _, hc'⟩ := k'.bool hi
    rw [← e'.2.1] at e2
    simp only [Option.some.injEq, Addr.mk.injEq] at e2
    obtain ⟨rfl, rfl, _⟩ := e2
    exact hc'
  have hk1 := GA.k1
  have hk8 := GA.k8
  obtain ⟨K, hK⟩ : ∃ K : Nat, A.k.toNat = K := ⟨_, rfl⟩
  have HKK : Hid (A.k = (K : Int) ∧ 1 ≤ K ∧ K ≤ 8 ∧ A.k.toNat = K) := ⟨by omega, by omega, by omega, hK⟩
  rw [hK]
  have HGA : Hid (Good A) := GA
  have HGB : Hid (Good B) := GB
  have HKB : Hid (B.k = A.k) := hkk
  have HSS : Hid (∀ x y, sh (x, y) = g (A.ac.getD x false) (B.ac.getD y false)) := hsh
  have HCV : Hid (∀ P p, Vld dec A.ac.length B.ac.length P → p.1 < A.ac.length → p.2 < B.ac.length → dec P p = false → ∀ v, sh (wrun (dd A B) p v) = true → ∃ q ∈ P, sh (wrun (dd A B) q v) = true) := hcov
  have HLN : Hid (∀ P, Vld dec A.ac.length B.ac.length P → P.length ≤ 16777216) := hlen
  have HH : Hid (Frs fn c1 c2 A.ac.length B.ac.length dec F) := H
  have HME : Hid (∀ (V : World) (E : Nat → Prop) (gq : Nat) (rc : List Value) (P : List (Nat × Nat)) (n : Nat) (qc : List Value) (vq : Value) (wr : World) (x y by' : Nat), n ≤ 16777216 → LM F w V B0 E gq rc P n qc vq wr → (∀ b, w.heap.size ≤ b → b < w.heap.size + 4 → E b) → LB w V #[.int .i64 A.k, .slice an A.nx.length cn, .slice (some ⟨ga, oa, none⟩) A.ac.length ca] #[.int .i64 A.k, .slice bn B.nx.length dn, .slice (some ⟨gb, ob, none⟩) B.ac.length da] (.func (.func fn) #[] #[c1, c2]) (.func (.func sn) #[] #[]) → x < A.ac.length → y < B.ac.length → by' ≤ 4294967295 → Calls Try.prog 53 #[peV x y, .int .i64 by', .pointer (some ⟨w.heap.size + 2, 0, none⟩), .pointer (some ⟨w.heap.size + 4, 0, none⟩), .pointer (some ⟨w.heap.size + 3, 0, none⟩), .pointer (some ⟨w.heap.size, 0, none⟩), .pointer (some ⟨w.heap.size + 1, 0, none⟩)] wr (MeQ F dec w V B0 E gq rc P n qc x y [.int .u16 (x : Int), .int .u16 (y : Int), .int .u32 (by' : Int)] (g (A.ac.getD x false) (B.ac.getD y false)))) := fun V E gq rc P n qc vq wr x y by' h1 h2 h3 h4 h5 h6 h7 => emeet_any F dec fn sn c1 c2 g A B H w V B0 hB E gq rc P n h1 qc vq wr h2 eF eS hS an bn cn dn ca da ga oa gb ob h3 h4.1 h4.2.1 h4.2.2.1 h4.2.2.2 CA.out CB.out x y by' h5 h6 hn2 hm2 h7
  have HST : Hid (∀ z (x y c : Nat), Below B0 w z → x < A.ac.length → y < B.ac.length → (c : Int) < A.k → Calls Try.prog 54 #[.agg #[.int .i64 A.k, .slice an A.nx.length cn, .slice (some ⟨ga, oa, none⟩) A.ac.length ca], .agg #[.int .i64 A.k, .slice bn B.nx.length dn, .slice (some ⟨gb, ob, none⟩) B.ac.length da], peV x y, .int .i64 c] z fun e w' => e = .returned (peV (dN A x c) (dN B y c)) ∧ Below z.heap.size z w') := fun z x y c hz hx hy hc => by
    have := estep_any va vb A B z (hARa z hz) (hARb z hz) GA GB hkk x y c hx hy hc
    rw [ea, eb] at this
    exact this
  subst ea
  subst eb
  obtain ⟨W, hW⟩ : ∃ W, W = (((((w.alloc (.cells #[.int .i64 A.k, .slice an A.nx.length cn, .slice (some ⟨ga, oa, none⟩) A.ac.length ca] 25)).alloc (.cells #[.int .i64 A.k, .slice bn B.nx.length dn, .slice (some ⟨gb, ob, none⟩) B.ac.length da] 25)).alloc (.cells #[(.func (.func fn) #[] #[c1, c2])] 56)).alloc (.cells #[(.func (.func sn) #[] #[])] 58)).alloc (.cells #[.slice none 0 0] 74)) := ⟨_, rfl⟩
  have HWE : Hid (W = (((((w.alloc (.cells #[.int .i64 A.k, .slice an A.nx.length cn, .slice (some ⟨ga, oa, none⟩) A.ac.length ca] 25)).alloc (.cells #[.int .i64 A.k, .slice bn B.nx.length dn, .slice (some ⟨gb, ob, none⟩) B.ac.length da] 25)).alloc (.cells #[(.func (.func fn) #[] #[c1, c2])] 56)).alloc (.cells #[(.func (.func sn) #[] #[])] 58)).alloc (.cells #[.slice none 0 0] 74))) := hW
  have hWs : W.heap.size = w.heap.size + 5 := by rw [hW]; simp
  have hWb : Below w.heap.size w W := by rw [hW]; exact go_on (go_on (go_on (go_on (below_new _ _) (below_new _ _)) (below_new _ _)) (below_new _ _)) (below_new _ _)
  have HLB : Hid (LB w W #[.int .i64 A.k, .slice an A.nx.length cn, .slice (some ⟨ga, oa, none⟩) A.ac.length ca] #[.int .i64 A.k, .slice bn B.nx.length dn, .slice (some ⟨gb, ob, none⟩) B.ac.length da] (.func (.func fn) #[] #[c1, c2]) (.func (.func sn) #[] #[]) ∧ W.heap[w.heap.size + 4]? = some (.cells #[.slice none 0 0] 74 (0, 0))) := by
    have q0 := heap_alloc_last w (.cells #[.int .i64 A.k, .slice an A.nx.length cn, .slice (some ⟨ga, oa, none⟩) A.ac.length ca] 25)
    have q1 := heap_alloc_last (w.alloc (.cells #[.int .i64 A.k, .slice an A.nx.length cn, .slice (some ⟨ga, oa, none⟩) A.ac.length ca] 25)) (.cells #[.int .i64 A.k, .slice bn B.nx.length dn, .slice (some ⟨gb, ob, none⟩) B.ac.length da] 25)
    have q2 := heap_alloc_last ((w.alloc (.cells #[.int .i64 A.k, .slice an A.nx.length cn, .slice (some ⟨ga, oa, none⟩) A.ac.length ca] 25)).alloc (.cells #[.int .i64 A.k, .slice bn B.nx.length dn, .slice (some ⟨gb, ob, none⟩) B.ac.length da] 25)) (.cells #[(.func (.func fn) #[] #[c1, c2])] 56)
    have q3 := heap_alloc_last (((w.alloc (.cells #[.int .i64 A.k, .slice an A.nx.length cn, .slice (some ⟨ga, oa, none⟩) A.ac.length ca] 25)).alloc (.cells #[.int .i64 A.k, .slice bn B.nx.length dn, .slice (some ⟨gb, ob, none⟩) B.ac.length da] 25)).alloc (.cells #[(.func (.func fn) #[] #[c1, c2])] 56)) (.cells #[(.func (.func sn) #[] #[])] 58)
    have q4 := heap_alloc_last ((((w.alloc (.cells #[.int .i64 A.k, .slice an A.nx.length cn, .slice (some ⟨ga, oa, none⟩) A.ac.length ca] 25)).alloc (.cells #[.int .i64 A.k, .slice bn B.nx.length dn, .slice (some ⟨gb, ob, none⟩) B.ac.length da] 25)).alloc (.cells #[(.func (.func fn) #[] #[c1, c2])] 56)).alloc (.cells #[(.func (.func sn) #[] #[])] 58)) (.cells #[.slice none 0 0] 74)
    simp only [World.size_alloc] at q1 q2 q3 q4
    show _ ∧ _
    rw [hW]
    exact ⟨⟨((below_new _ _).block _ (by simp <;> omega)).trans (((below_new _ _).block _ (by simp <;> omega)).trans (((below_new _ _).block _ (by simp <;> omega)).trans (((below_new _ _).block _ (by simp)).trans q0))), ((below_new _ _).block _ (by simp <;> omega)).trans (((below_new _ _).block _ (by simp <;> omega)).trans (((below_new _ _).block _ (by simp)).trans q1)), ((below_new _ _).block _ (by simp <;> omega)).trans (((below_new _ _).block _ (by simp)).trans q2), ((below_new _ _).block _ (by simp)).trans q3⟩, q4⟩
  have HWS : Hid (W.heap.size = w.heap.size + 5) := hWs
  have HM0 : Hid (LM F w W B0 (fun b => w.heap.size ≤ b ∧ b < w.heap.size + 4) 0 [] [] 0 [] (.slice none 0 0) W) := by
    refine ⟨⟨O, H.keep [] O w W hF0 (fun b q => hWb.block b (H.lt [] O w b hF0 q)), fun b q => ?_⟩, fun q => absurd rfl q, fun o v q => by simp at q, fun q => ⟨[], rfl⟩, HLB.out.2, World.ownsRow_nil _ _ _ _, fun b q => by simp [Value.ownBlock] at q, by omega, fun b q => by have := q.2; omega, fun b q => rfl, Nat.le_refl _, hWb.mono hB⟩
    have := H.lt [] O w b hF0 q
    exact ⟨hO b q, fun e => by have := e.1; omega, by omega, by simp [Value.ownBlock], fun e => absurd rfl e⟩
  have HC0 : Hid (Calls Try.prog 53 #[.agg #[.int .u16 0, .int .u16 0], .int .i64 0, .pointer (some ⟨w.heap.size + 2, 0, none⟩), .pointer (some ⟨w.heap.size + 4, 0, none⟩), .pointer (some ⟨w.heap.size + 3, 0, none⟩), .pointer (some ⟨w.heap.size, 0, none⟩), .pointer (some ⟨w.heap.size + 1, 0, none⟩)] W (MeQ F dec w W B0 (fun b => w.heap.size ≤ b ∧ b < w.heap.size + 4) 0 [] [] 0 [] 0 0 [.int .u16 0, .int .u16 0, .int .u32 0] (g (A.ac.getD 0 false) (B.ac.getD 0 false)))) := HME.out W _ 0 [] [] 0 [] _ W 0 0 0 (by omega) HM0.out (fun b h1 h2 => ⟨h1, h2⟩) HLB.out.1 (by omega) (by omega) (by omega)
  clear k1 k2 l1 l2 GA GB hkk hk1 hk8 hK hsh hcov hlen H hF0 hO hARa hARb hS hW hWs hWb
  go_enter Try.func36, Try.ntmps36
  go_wp2_with fail
  rw [← HWE.out]
  refine HC0.out.mono ?_
  rintro e w1 ⟨rfl, hm⟩
  rcases hm with ⟨hd, vq, hL⟩ | ⟨hd, vq, hL⟩
  · rw [hd]
    cases hg : g (A.ac.getD 0 false) (B.ac.getD 0 false) with
    | true =>
      have HO : Hid (lsh (dd A B) K sh (0, 0) = some []) := lsh_some ⟨by simp, by rw [wrun_nil, HSS.out]; exact hg, fun v _ _ => sle_nil v⟩
      have HB1 : Hid (Below B0 w w1) := hL.below
      have HV : Hid (Vld dec A.ac.length B.ac.length [(0, 0)]) := (Vld.nil _ _ _).snoc (p := (0, 0)) hd (by show 0 < _; omega) (by show 0 < _; omega)
      clear hL hd hg
      go_wp2_with fail
      go_ret2
      exact ⟨by rw [HO.out]; rfl, fun u hu => (by rw [HO.out, Option.some.injEq] at hu; exact ⟨_, HV.out, by rw [← hu]; simp⟩), HB1.out⟩
    | false =>
      have HQ1 : Hid (∃ (Q : List (Nod (Nat × Nat))) (vq : Value), 0 ≤ Q.length ∧ LM F w W B0 (fun b => w.heap.size ≤ b ∧ b < w.heap.size + 4) 0 [] (Q.map Nod.p) Q.length (Q.flatMap (emC K)) vq w1 ∧ LI A B K sh dec Q 0 0) := by
        refine ⟨[⟨(0, 0), 0, 0, []⟩], vq, Nat.zero_le _, ?_, QI.start _ _ _ _ _ _, fun m hm => ?_, fun m hm => ?_, ?_⟩
        · have e1 : (([⟨(0, 0), 0, 0, []⟩] : List (Nod (Nat × Nat))).flatMap (emC K)) = [] ++ [.int .u16 0, .int .u16 0, .int .u32 0] := by simp [emC]
          rw [e1]
          exact hL
        · rw [List.mem_singleton.1 hm, HSS.out]; exact hg
        · rw [List.mem_singleton.1 hm]; exact ⟨by show 0 < _; omega, by show 0 < _; omega⟩
        · exact (Vld.nil _ _ _).snoc (p := (0, 0)) hd (by show 0 < _; omega) (by show 0 < _; omega)
      clear hL hd hg HC0 HM0 vq
      go_wp2_with fail
      go_loopw [12] (fun vi wr => ∃ (i : Nat) (Q : List (Nod (Nat × Nat))) (vq : Value), vi = .int .i64 i ∧ i ≤ Q.length ∧ LM F w W B0 (fun b => w.heap.size ≤ b ∧ b < w.heap.size + 4) 0 [] (Q.map Nod.p) Q.length (Q.flatMap (emC K)) vq wr ∧ LI A B K sh dec Q i 0) (fun vi _ => 16777217 - (intOf vi).toNat)
      case atStart =>
        obtain ⟨Q, vq, h1, h2, h3⟩ := HQ1.out
        exact ⟨0, Q, vq, rfl, h1, h2, h3⟩
      case round =>
        clear HQ1
        obtain ⟨i, Q, vq, rfl, hiQ, hA, hP⟩ := hrel
        have hQl : Q.length ≤ 16777216 := by
          have := HLN.out _ hP.val
          rw [List.length_map] at this
          exact this
        obtain ⟨qa, qc, rfl⟩ := own_shape hA.que
        have cq : wr.cell? ⟨w.heap.size + 4, 0, none⟩ = some (.slice qa Q.length qc) := cell_of hA.q
        have HA : Hid (LM F w W B0 (fun b => w.heap.size ≤ b ∧ b < w.heap.size + 4) 0 [] (Q.map Nod.p) Q.length (Q.flatMap (emC K)) (.slice qa Q.length qc) wr) := hA
        have HP : Hid (LI A B K sh dec Q i 0) := hP
        by_cases hlt : i < Q.length
        · have hiI : (i : Int) < Q.length := by omega
          obtain ⟨gq, rfl⟩ : ∃ gq, qa = some ⟨gq, 0, none⟩ := by
            rcases hA.que.2 with ⟨_, h0⟩ | ⟨g', cap', cur, hv, _⟩
            · omega
            · simp only [Value.slice.injEq] at hv
              exact ⟨g', hv.1⟩
          have hcap : Q.length ≤ qc := by
            rcases hA.que.2 with ⟨hv, h0⟩ | ⟨g', cap', cur, hv, _, _, hnc, _⟩
            · cases hv
            · simp only [Value.slice.injEq] at hv
              rw [hv.2.2]; exact hnc
          clear hA hP
          go_wp2_with fail
          obtain ⟨N, hN⟩ : ∃ N, Q.length - i = N := ⟨_, rfl⟩
          rw [hN]
          have HJ0 : Hid (LM F w W B0 (fun b => w.heap.size ≤ b ∧ b < w.heap.size + 4) gq (Q.flatMap (emC K)) (Q.map Nod.p) Q.length (Q.flatMap (emC K)) (.slice (some ⟨gq, 0, none⟩) Q.length qc) wr) := HA.out.mark
          clear HA cq
          go_loopw [34] (fun vj wr => ∃ (j : Nat) (Q' : List (Nod (Nat × Nat))) (vq : Value), vj = .int .i64 j ∧ j ≤ N ∧ LM F w W B0 (fun b => w.heap.size ≤ b ∧ b < w.heap.size + 4) gq (Q.flatMap (emC K)) (Q'.map Nod.p) Q'.length (Q'.flatMap (emC K)) vq wr ∧ LI A B K sh dec Q' (i + j) 0 ∧ ∃ T, Q' = Q ++ T) (fun vj _ => N - (intOf vj).toNat)
          case atStart => exact ⟨0, Q, _, rfl, Nat.zero_le _, HJ0.out, HP.out, [], by simp⟩
          case round =>
            clear HJ0 HP
            obtain ⟨j, Q', vq, rfl, hjN, hA, hP, T, hT⟩ := hrel
            by_cases hj : j < N
            · have hjI : (j : Int) < N := by omega
              obtain ⟨I, hI⟩ : ∃ I, i + j = I := ⟨_, rfl⟩
              rw [hI] at hP
              have hIQ : I < Q.length := by omega
              obtain ⟨n, hn⟩ : ∃ n, Q[I]? = some n := ⟨Q[I], List.getElem?_eq_getElem hIQ⟩
              have hn' : Q'[I]? = some n := by rw [hT, List.getElem?_append_left hIQ]; exact hn
              obtain ⟨X, hXe⟩ : ∃ X, n.p.1 = X := ⟨_, rfl⟩
              obtain ⟨Y, hYe⟩ : ∃ Y, n.p.2 = Y := ⟨_, rfl⟩
              obtain ⟨Z, hZe⟩ : ∃ Z, n.u * K + n.c = Z := ⟨_, rfl⟩
              have hoff : i * 3 + j * 3 = I * 3 := by omega
              have d0 : wr.cell? ⟨gq, I * 3, none⟩ = some (.int .u16 (X : Int)) := by
                rw [← hXe]
                exact hA.hold (I * 3) _ (by rw [show I * 3 = I * 3 + 0 from rfl, flat_get (emC_len K) Q I n 0 hn (by omega)]; rfl)
              have d1 : wr.cell? ⟨gq, I * 3 + 1, none⟩ = some (.int .u16 (Y : Int)) := by
                rw [← hYe]
                exact hA.hold (I * 3 + 1) _ (by rw [flat_get (emC_len K) Q I n 1 hn (by omega)]; rfl)
              have d2 : wr.cell? ⟨gq, I * 3 + 2, none⟩ = some (.int .u32 (Z : Int)) := by
                rw [← hZe]
                exact hA.hold (I * 3 + 2) _ (by rw [flat_get (emC_len K) Q I n 2 hn (by omega)]; rfl)
              have HXE : Hid (n.p.1 = X ∧ n.p.2 = Y) := ⟨hXe, hYe⟩
              have hXY := hP.oks n (List.mem_of_getElem? hn')
              rw [hXe, hYe] at hXY
              obtain ⟨hX, hY⟩ := hXY
              have HA : Hid (LM F w W B0 (fun b => w.heap.size ≤ b ∧ b < w.heap.size + 4) gq (Q.flatMap (emC K)) (Q'.map Nod.p) Q'.length (Q'.flatMap (emC K)) vq wr) := hA
              have HP : Hid (LI A B K sh dec Q' I 0) := hP
              have HN : Hid (Q'[I]? = some n ∧ ∃ T, Q' = Q ++ T) := ⟨hn', T, hT⟩
              have ca0 : ∀ o, wr.cell? ⟨w.heap.size, o, none⟩ = (#[.int .i64 A.k, .slice an A.nx.length cn, .slice (some ⟨ga, oa, none⟩) A.ac.length ca] : Array Value)[o]? := fun o => (World.cell?_of_block (hA.res w.heap.size ⟨Nat.le_refl _, by omega⟩)).trans (cell_of HLB.out.1.1)
              have hws0 : w.heap.size < wr.heap.size := by have := hA.sz; have := HWS.out; omega
              clear hA hP hn hn' hT hXe hYe hZe
              go_wp2_with fail
              obtain ⟨mb, hmb⟩ : ∃ mb, wr.heap.size = mb := ⟨_, rfl⟩
              obtain ⟨wm, hwm⟩ : ∃ wm, wm = wr.alloc (.cells #[.int .u16 (X : Int), .int .u16 (Y : Int), .int .u32 (Z : Int)] 80) := ⟨_, rfl⟩
              have HI0 : Hid (LIn F A B K sh dec w wm B0 (fun b => (w.heap.size ≤ b ∧ b < w.heap.size + 4) ∨ b = mb) gq Q n I 0 wm) := by
                have := LM.box HH.out hB HA.out (.cells #[.int .u16 (X : Int), .int .u16 (Y : Int), .int .u32 (Z : Int)] 80)
                rw [← hwm, hmb] at this
                exact ⟨Q', vq, this, HP.out, HN.out.1, HN.out.2⟩
              have HMB : Hid (wm.heap[mb]? = some (.cells #[.int .u16 (X : Int), .int .u16 (Y : Int), .int .u32 (Z : Int)] 80 (0, 0))) := by
                have := heap_alloc_last wr (.cells #[.int .u16 (X : Int), .int .u16 (Y : Int), .int .u32 (Z : Int)] 80)
                rw [hmb] at this
                rw [hwm]; exact this
              have HRE : Hid (∀ b, w.heap.size ≤ b ∧ b < w.heap.size + 4 → wm.heap[b]? = W.heap[b]?) := fun b hb => by
                rw [hwm]
                exact ((below_new wr _).block b (by have := HA.out.sz; have := HWS.out; omega)).trans (HA.out.res b hb)
              have HLM : Hid (LB w wm #[.int .i64 A.k, .slice an A.nx.length cn, .slice (some ⟨ga, oa, none⟩) A.ac.length ca] #[.int .i64 A.k, .slice bn B.nx.length dn, .slice (some ⟨gb, ob, none⟩) B.ac.length da] (.func (.func fn) #[] #[c1, c2]) (.func (.func sn) #[] #[])) := ⟨(HRE.out _ ⟨by omega, by omega⟩).trans HLB.out.1.1, (HRE.out _ ⟨by omega, by omega⟩).trans HLB.out.1.2.1, (HRE.out _ ⟨by omega, by omega⟩).trans HLB.out.1.2.2.1, (HRE.out _ ⟨by omega, by omega⟩).trans HLB.out.1.2.2.2⟩
              have HSM : Hid (W.heap.size ≤ wm.heap.size ∧ w.heap.size + 4 < mb) := ⟨by rw [hwm]; simp; have := HA.out.sz; omega, by have := HA.out.sz; have := HWS.out; omega⟩
              rw [← hwm]
              simp only [hmb]
              clear hwm hmb d0 d1 d2 ca0 HA HP HN hws0
              go_loopw [41] (fun vc wr => ∃ c : Nat, vc = .int .i64 c ∧ c ≤ K ∧ LIn F A B K sh dec w wm B0 (fun b => (w.heap.size ≤ b ∧ b < w.heap.size + 4) ∨ b = mb) gq Q n I c wr) (fun vc _ => K - (intOf vc).toNat)
              case atStart => exact ⟨0, rfl, Nat.zero_le _, HI0.out⟩
              case round =>
                clear HI0
                obtain ⟨c, rfl, hcK, hIn⟩ := hrel
                by_cases hc : c < K
                · have hcI : (c : Int) < A.k := by have := HKK.out.1; omega
                  have hc8 : c < 8 := by have := HKK.out.2.2.1; omega
                  obtain ⟨Q', vq, hM, hL, hn, hT⟩ := hIn
                  have hQl' : Q'.length ≤ 16777216 := by
                    have := HLN.out _ hL.val
                    rw [List.length_map] at this
                    exact this
                  have hil := (List.getElem?_eq_some_iff.1 hn).1
                  have hIK : I * K ≤ I * 8 := Nat.mul_le_mul_left _ HKK.out.2.2.1
                  have hd1 := (HGA.out.at hX hcI).2.2
                  have hd2 := (HGB.out.at hY (by rw [HKB.out]; exact hcI)).2.2
                  obtain ⟨D1, hD1⟩ : ∃ D, dN A X c = D := ⟨_, rfl⟩
                  obtain ⟨D2, hD2⟩ : ∃ D, dN B Y c = D := ⟨_, rfl⟩
                  obtain ⟨M, hMe⟩ : ∃ M, I * K = M := ⟨_, rfl⟩
                  obtain ⟨bb, hbb⟩ : ∃ bb, (dec (Q'.map Nod.p) (D1, D2) && sh (D1, D2)) = bb := ⟨_, rfl⟩
                  have HMT : Hid (∀ y, Below wr.heap.size wr y → Calls Try.prog 53 #[.agg #[.int .u16 (D1 : Int), .int .u16 (D2 : Int)], .int .i64 ((M : Int) + (c : Int)), .pointer (some ⟨w.heap.size + 2, 0, none⟩), .pointer (some ⟨w.heap.size + 4, 0, none⟩), .pointer (some ⟨w.heap.size + 3, 0, none⟩), .pointer (some ⟨w.heap.size, 0, none⟩), .pointer (some ⟨w.heap.size + 1, 0, none⟩)] y fun e y3 => e = .returned (.bool bb) ∧ (bb = false → LIn F A B K sh dec w wm B0 (fun b => (w.heap.size ≤ b ∧ b < w.heap.size + 4) ∨ b = mb) gq Q n I (c + 1) y3) ∧ (bb = true → LFd F A B K sh dec w wm B0 (fun b => (w.heap.size ≤ b ∧ b < w.heap.size + 4) ∨ b = mb) gq Q y3)) := fun y hy => by
                    have h1 := HME.out wm (fun b => (w.heap.size ≤ b ∧ b < w.heap.size + 4) ∨ b = mb) gq (Q.flatMap (emC K)) (Q'.map Nod.p) Q'.length (Q'.flatMap (emC K)) vq y D1 D2 (I * K + c) hQl' (LM.call HH.out hB hM hy) (fun b h1 h2 => .inl ⟨h1, h2⟩) HLM.out (by rw [← hD1]; exact hd1) (by rw [← hD2]; exact hd2) (by omega)
                    rw [show ((M : Int) + (c : Int)) = ((I * K + c : Nat) : Int) by rw [hMe]; omega]
                    refine Calls.mono h1 ?_
                    rintro e y3 ⟨rfl, hm⟩
                    have h3 := LIn.step (y3 := y3) (R := Q) hL hn hT hc (by rw [HXE.out.1]; exact hd1) (by rw [HXE.out.2]; exact hd2) HCV.out (by rw [HXE.out.1, HXE.out.2, hD1, hD2]; exact hm)
                    rw [HXE.out.1, HXE.out.2, hD1, hD2, hbb] at h3
                    refine ⟨?_, h3⟩
                    rw [← hbb, HSS.out]
                  have HT1 : Hid (∀ y, Below B0 w y → Calls Try.prog 54 #[.agg #[.int .i64 A.k, .slice an A.nx.length cn, .slice (some ⟨ga, oa, none⟩) A.ac.length ca], .agg #[.int .i64 A.k, .slice bn B.nx.length dn, .slice (some ⟨gb, ob, none⟩) B.ac.length da], .agg #[.int .u16 (X : Int), .int .u16 (Y : Int)], .int .i64 (c : Int)] y fun e w' => e = .returned (.agg #[.int .u16 (D1 : Int), .int .u16 (D2 : Int)]) ∧ Below y.heap.size y w') := fun y hy => by rw [← hD1, ← hD2]; exact HST.out y X Y c hy hX hY hcI
                  have hwI : IntKind.i64.wrap ((i : Int) + (j : Int)) = (I : Int) := by rw [IntKind.wrap_i64]; omega
                  have hwM : IntKind.i64.wrap ((I : Int) * A.k) = (M : Int) := by
                    have : (I : Int) * A.k = (M : Int) := by rw [HKK.out.1, ← hMe]; simp
                    rw [this, IntKind.wrap_i64]; omega
                  have hwB : IntKind.i64.wrap ((M : Int) + (c : Int)) = (M : Int) + (c : Int) := by rw [IntKind.wrap_i64]; omega
                  have KR : Hid (∀ y, (∀ b, (fun b => (w.heap.size ≤ b ∧ b < w.heap.size + 4) ∨ b = mb) b → y.heap[b]? = wm.heap[b]?) → Below B0 w y → (∀ o, y.cell? ⟨w.heap.size, o, none⟩ = (#[.int .i64 A.k, .slice an A.nx.length cn, .slice (some ⟨ga, oa, none⟩) A.ac.length ca] : Array Value)[o]?) ∧ (∀ o, y.cell? ⟨w.heap.size + 1, o, none⟩ = (#[.int .i64 A.k, .slice bn B.nx.length dn, .slice (some ⟨gb, ob, none⟩) B.ac.length da] : Array Value)[o]?) ∧ (∀ o, y.cell? ⟨mb, o, none⟩ = (#[.int .u16 (X : Int), .int .u16 (Y : Int), .int .u32 (Z : Int)] : Array Value)[o]?) ∧ Below B0 w y ∧ mb < y.heap.size) := fun y hr hb => ⟨fun o => (World.cell?_of_block (hr w.heap.size (.inl ⟨by omega, by omega⟩))).trans (cell_of HLM.out.1), fun o => (World.cell?_of_block (hr (w.heap.size + 1) (.inl ⟨by omega, by omega⟩))).trans (cell_of HLM.out.2.1), fun o => (World.cell?_of_block (hr _ (.inr rfl))).trans (cell_of HMB.out), hb, (Array.getElem?_eq_some_iff.1 ((hr _ (.inr rfl)).trans HMB.out)).1⟩
                  have KK : Hid (∀ y1 y2, Below y1.heap.size y1 y2 → ((∀ o, y1.cell? ⟨w.heap.size, o, none⟩ = (#[.int .i64 A.k, .slice an A.nx.length cn, .slice (some ⟨ga, oa, none⟩) A.ac.length ca] : Array Value)[o]?) ∧ (∀ o, y1.cell? ⟨w.heap.size + 1, o, none⟩ = (#[.int .i64 A.k, .slice bn B.nx.length dn, .slice (some ⟨gb, ob, none⟩) B.ac.length da] : Array Value)[o]?) ∧ (∀ o, y1.cell? ⟨mb, o, none⟩ = (#[.int .u16 (X : Int), .int .u16 (Y : Int), .int .u32 (Z : Int)] : Array Value)[o]?) ∧ Below B0 w y1 ∧ mb < y1.heap.size) → ((∀ o, y2.cell? ⟨w.heap.size, o, none⟩ = (#[.int .i64 A.k, .slice an A.nx.length cn, .slice (some ⟨ga, oa, none⟩) A.ac.length ca] : Array Value)[o]?) ∧ (∀ o, y2.cell? ⟨w.heap.size + 1, o, none⟩ = (#[.int .i64 A.k, .slice bn B.nx.length dn, .slice (some ⟨gb, ob, none⟩) B.ac.length da] : Array Value)[o]?) ∧ (∀ o, y2.cell? ⟨mb, o, none⟩ = (#[.int .u16 (X : Int), .int .u16 (Y : Int), .int .u32 (Z : Int)] : Array Value)[o]?) ∧ Below B0 w y2 ∧ mb < y2.heap.size)) := fun y1 y2 hy h => by
                    have h9 := HSM.out.2
                    have h8 := h.2.2.2.2
                    exact ⟨fun o => (below_cell hy (by omega)).trans (h.1 o), fun o => (below_cell hy (by omega)).trans (h.2.1 o), fun o => (below_cell hy h8).trans (h.2.2.1 o), h.2.2.2.1.trans (hy.mono (Nat.le_trans hB h.2.2.2.1.size)), Nat.lt_of_lt_of_le h8 hy.size⟩
                  have KE : Hid (∀ y3, (bb = false → LIn F A B K sh dec w wm B0 (fun b => (w.heap.size ≤ b ∧ b < w.heap.size + 4) ∨ b = mb) gq Q n I (c + 1) y3) ∧ (bb = true → LFd F A B K sh dec w wm B0 (fun b => (w.heap.size ≤ b ∧ b < w.heap.size + 4) ∨ b = mb) gq Q y3) → ((∀ o, y3.cell? ⟨w.heap.size, o, none⟩ = (#[.int .i64 A.k, .slice an A.nx.length cn, .slice (some ⟨ga, oa, none⟩) A.ac.length ca] : Array Value)[o]?) ∧ (∀ o, y3.cell? ⟨w.heap.size + 1, o, none⟩ = (#[.int .i64 A.k, .slice bn B.nx.length dn, .slice (some ⟨gb, ob, none⟩) B.ac.length da] : Array Value)[o]?) ∧ (∀ o, y3.cell? ⟨mb, o, none⟩ = (#[.int .u16 (X : Int), .int .u16 (Y : Int), .int .u32 (Z : Int)] : Array Value)[o]?) ∧ Below B0 w y3 ∧ mb < y3.heap.size)) := fun y3 h3 => by
                    cases bb with
                    | false =>
                      obtain ⟨Q9, v9, h9, _⟩ := h3.1 rfl
                      exact KR.out y3 h9.res h9.below
                    | true =>
                      obtain ⟨Q9, v9, n9, h9, _⟩ := h3.2 rfl
                      exact KR.out y3 h9.res h9.below
                  have S0 : (∀ o, wr.drew.cell? ⟨w.heap.size, o, none⟩ = (#[.int .i64 A.k, .slice an A.nx.length cn, .slice (some ⟨ga, oa, none⟩) A.ac.length ca] : Array Value)[o]?) ∧ (∀ o, wr.drew.cell? ⟨w.heap.size + 1, o, none⟩ = (#[.int .i64 A.k, .slice bn B.nx.length dn, .slice (some ⟨gb, ob, none⟩) B.ac.length da] : Array Value)[o]?) ∧ (∀ o, wr.drew.cell? ⟨mb, o, none⟩ = (#[.int .u16 (X : Int), .int .u16 (Y : Int), .int .u32 (Z : Int)] : Array Value)[o]?) ∧ Below B0 w wr.drew ∧ mb < wr.drew.heap.size := KR.out wr.drew (fun b hb => hM.res b hb) hM.below.drew
                  clear hM hL hn hT hd1 hd2 hD1 hD2 hMe hbb hIK hil hQl'
                  go_wp2_with fail
                  go_region_held3 (fun y => (∀ o, y.cell? ⟨w.heap.size, o, none⟩ = (#[.int .i64 A.k, .slice an A.nx.length cn, .slice (some ⟨ga, oa, none⟩) A.ac.length ca] : Array Value)[o]?) ∧ (∀ o, y.cell? ⟨w.heap.size + 1, o, none⟩ = (#[.int .i64 A.k, .slice bn B.nx.length dn, .slice (some ⟨gb, ob, none⟩) B.ac.length da] : Array Value)[o]?) ∧ (∀ o, y.cell? ⟨mb, o, none⟩ = (#[.int .u16 (X : Int), .int .u16 (Y : Int), .int .u32 (Z : Int)] : Array Value)[o]?) ∧ Below B0 w y ∧ mb < y.heap.size) (first | exact S0 | assumption | exact KK.out _ _ (by assumption) (by assumption)) (first
                    | (go_at_call 53; refine (HMT.out _ (go_on (Below.refl _ _).drew hy1)).mono ?_; rintro e y3 ⟨rfl, hm3⟩; have HI3 : Hid ((bb = false → LIn F A B K sh dec w wm B0 (fun b => (w.heap.size ≤ b ∧ b < w.heap.size + 4) ∨ b = mb) gq Q n I (c + 1) y3) ∧ (bb = true → LFd F A B K sh dec w wm B0 (fun b => (w.heap.size ≤ b ∧ b < w.heap.size + 4) ∨ b = mb) gq Q y3)) := hm3; have hS3 := KE.out y3 hm3; clear hm3)
                    | (go_at_call 54; refine (HT1.out _ (And.left (And.right (And.right (And.right (by assumption)))))).mono ?_; rintro e y1 ⟨rfl, hy1⟩))
                  all_goals (
                    cases bb with
                    | false =>
                      have HI4 : Hid (LIn F A B K sh dec w wm B0 (fun b => (w.heap.size ≤ b ∧ b < w.heap.size + 4) ∨ b = mb) gq Q n I (c + 1) y3) := HI3.out.1 rfl
                      go_wp2_with fail
                      go_roundw
                      case rel => exact ⟨c + 1, by go_num, by omega, HI4.out⟩
                      case measure => simp [intOf]; omega
                    | true =>
                      obtain ⟨Q9, v9, n9, hM9, hla, hup, hls, hva, hle⟩ := HI3.out.2 rfl
                      have hQ9 : Q9.length ≤ 16777216 := by
                        have := HLN.out _ hva
                        rw [List.length_map] at this
                        exact this
                      obtain ⟨a9, k9, rfl⟩ := own_shape hM9.que
                      obtain ⟨g9, rfl⟩ : ∃ g9, a9 = some ⟨g9, 0, none⟩ := by
                        rcases hM9.que.2 with ⟨_, h0⟩ | ⟨g', cap', cur, hv, _⟩
                        · omega
                        · simp only [Value.slice.injEq] at hv
                          exact ⟨g', hv.1⟩
                      have cq9 : y3.cell? ⟨w.heap.size + 4, 0, none⟩ = some (.slice (some ⟨g9, 0, none⟩) Q9.length k9) := cell_of hM9.q
                      have ca9 := hS3.1
                      have HLS : Hid (lsh (dd A B) K sh (0, 0) = some n9.w) := hls
                      have HVA : Hid (Vld dec A.ac.length B.ac.length (Q9.map Nod.p) ∧ n9.w.length < (Q9.map Nod.p).length) := ⟨hva, by rw [List.length_map]; exact hle⟩
                      have HB9 : Hid (Below B0 w y3) := hM9.below
                      have HLW : Hid (∀ z, Below y3.heap.size y3 z → Calls Try.prog 55 #[.int .i64 A.k, .slice (some ⟨g9, 0, none⟩) Q9.length k9] z fun e w' => e = .returned (.string ⟨(lB n9.w).toArray⟩) ∧ Below z.heap.size z w') := fun z hz => by
                        rw [HKK.out.1]
                        exact elast_any w.heap.size g9 k9 Q9 K HKK.out.2.1 HKK.out.2.2.1 hQ9 hup n9 hla z (own_below hM9.que hz)
                      clear hM9 hla hup hls hva hle hQ9
                      go_wp2_with fail
                      refine (HLW.out _ (by first | exact Below.refl _ _ | exact (Below.refl _ _).drew)).mono ?_
                      rintro e w9 ⟨rfl, hb9⟩
                      have HB8 : Hid (Below B0 w w9) := HB9.out.trans ((by first | exact (hb9.mono (Nat.le_trans hB HB9.out.size)) | exact ((Below.refl _ _).drew.trans hb9).mono (Nat.le_trans hB HB9.out.size)))
                      clear hb9
                      go_wp2_with fail
                      go_ret2
                      exact ⟨by rw [HLS.out]; rfl, fun u hu => (by rw [HLS.out, Option.some.injEq] at hu; exact ⟨_, HVA.out.1, by rw [← hu]; exact HVA.out.2⟩), HB8.out⟩)
                · have hcI : ¬ (c : Int) < A.k := by have := HKK.out.1; omega
                  have hcE : c = K := by omega
                  obtain ⟨Q', vq, hM, hL, hn, hT⟩ := hIn
                  have HEN : Hid (∃ (Q' : List (Nod (Nat × Nat))) (vq : Value), LM F w W B0 (fun b => w.heap.size ≤ b ∧ b < w.heap.size + 4) gq (Q.flatMap (emC K)) (Q'.map Nod.p) Q'.length (Q'.flatMap (emC K)) vq wr ∧ LI A B K sh dec Q' (i + (j + 1)) 0 ∧ ∃ T, Q' = Q ++ T) := by
                    refine ⟨Q', vq, hM.less (fun b hb => .inl hb) (fun b hb => by have := HWS.out; have := hb.2; omega) HRE.out HSM.out.1, ?_, hT⟩
                    rw [hcE] at hL
                    rw [show i + (j + 1) = I + 1 by omega]
                    exact ⟨hL.qi.next, hL.nsh, hL.oks, hL.val⟩
                  clear hM hL hn hT hcE
                  go_wp2_with fail
                  go_roundw
                  case rel =>
                    obtain ⟨Q9, v9, h1, h2, h3⟩ := HEN.out
                    exact ⟨j + 1, Q9, v9, by go_num, by omega, h1, h2, h3⟩
                  case measure => simp [intOf]; omega
            · have hjI : ¬ (j : Int) < N := by omega
              have hjE : j = N := by omega
              have HEN : Hid (∃ (Q : List (Nod (Nat × Nat))) (vq : Value), i + N ≤ Q.length ∧ LM F w W B0 (fun b => w.heap.size ≤ b ∧ b < w.heap.size + 4) 0 [] (Q.map Nod.p) Q.length (Q.flatMap (emC K)) vq wr ∧ LI A B K sh dec Q (i + N) 0) := by
                rw [hjE] at hP
                refine ⟨Q', vq, ?_, hA.unmark, hP⟩
                rw [hT, List.length_append]
                omega
              clear hA hP hT
              go_wp2_with fail
              go_roundw
              case rel =>
                obtain ⟨Q9, v9, h1, h2, h3⟩ := HEN.out
                exact ⟨i + N, Q9, v9, by go_num, h1, h2, h3⟩
              case measure => simp [intOf]; omega
        · have hiI : ¬ (i : Int) < Q.length := by omega
          have HO : Hid (lsh (dd A B) K sh (0, 0) = none) := lsh_none (HP.out.qi.none (by omega) HP.out.nsh)
          have HB1 : Hid (Below B0 w wr) := hA.below
          clear hA hP
          go_wp2_with fail
          go_ret2
          exact ⟨by rw [HO.out]; rfl, fun u hu => (by rw [HO.out] at hu; cases hu), HB1.out⟩
  · rw [hd]
    have HO : Hid (lsh (dd A B) K sh (0, 0) = none) := lsh_none (fun v _ => by
      cases q : sh (wrun (dd A B) (0, 0) v) with
      | false => rfl
      | true =>
        obtain ⟨p, hp, _⟩ := HCV.out [] (0, 0) (Vld.nil _ _ _) (by show 0 < _; omega) (by show 0 < _; omega) hd v q
        simp at hp)
    have HB1 : Hid (Below B0 w w1) := hL.below
    have cq : w1.cell? ⟨w.heap.size + 4, 0, none⟩ = some vq := cell_of hL.q
    obtain ⟨qa, qc, rfl⟩ := own_shape hL.que
    clear hL hd
    go_wp2_with fail
    go_loopw [12] (fun vi wr => vi = .int .i64 0 ∧ wr = w1) (fun vi _ => 0)
    case atStart => exact ⟨rfl, rfl⟩
    case round =>
      obtain ⟨rfl, rfl⟩ := hrel
      go_wp2_with fail
      go_ret2
      exact ⟨by rw [HO.out]; rfl, fun u hu => (by rw [HO.out] at hu; cases hu), HB1.out⟩
end Go.Proofs.Ytceoceecgekkjaa
