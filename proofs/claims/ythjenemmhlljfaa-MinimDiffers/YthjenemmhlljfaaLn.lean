/- The document's Apart. -/
import Derived.Test.YthjenemmhlljfaaLm
import Derived.Deep.RegionHeld3
namespace Go.Proofs.Ythjenemmhlljfaa
open Go Go.RowKit Go.Lib
set_option linter.unusedVariables false

/-- A pair's place in the table. -/
def cod (B : Aut) (n : Nod (Nat × Nat)) : Nat := n.p.1 * B.ac.length + n.p.2
/-- How far the document's search among pairs has come; mt: which pairs were met. -/
structure DP (A B : Aut) (K : Nat) (sh : Nat × Nat → Bool) (x : Nat × Nat) (Q : List (Nod (Nat × Nat))) (i c : Nat) (mt : List Bool) : Prop where
  qi : QI (dd A B) K sh x Q i c
  ml : mt.length = A.ac.length * B.ac.length
  mem : ∀ j, j < mt.length → (mt.getD j false = true ↔ j ∈ Q.map (cod B))
  nd : (Q.map (cod B)).Nodup
  oks : ∀ n ∈ Q, n.p.1 < A.ac.length ∧ n.p.2 < B.ac.length
theorem cod_lt {n m x y : Nat} (hx : x < n) (hy : y < m) : x * m + y < n * m := by
  have := Nat.mul_le_mul_right m (show x + 1 ≤ n from hx)
  rw [Nat.add_mul] at this
  omega
theorem cod_inj {m x y x' y' : Nat} (hy : y < m) (hy' : y' < m) (h : x * m + y = x' * m + y') : x = x' ∧ y = y' := by
  have h1 : (x * m + y) / m = x := by rw [Nat.mul_comm, Nat.mul_add_div (by omega), Nat.div_eq_of_lt hy, Nat.add_zero]
  have h2 : (x' * m + y') / m = x' := by rw [Nat.mul_comm, Nat.mul_add_div (by omega), Nat.div_eq_of_lt hy', Nat.add_zero]
  have : x = x' := by rw [← h1, ← h2, h]
  subst this
  exact ⟨rfl, by omega⟩
theorem getD_setB {l : List Bool} {x y : Nat} {v : Bool} (h : x < l.length) : (l.set x v).getD y false = if x = y then v else l.getD y false := by
  rw [List.getD_eq_getElem?_getD, List.getElem?_set]
  by_cases e : x = y
  · subst e; simp [h]
  · simp [e, List.getD_eq_getElem?_getD]
theorem DP.start {A B : Aut} {K : Nat} {sh : Nat × Nat → Bool} {s t : Nat} (hs : s < A.ac.length) (ht : t < B.ac.length) : DP A B K sh (s, t) [⟨(s, t), 0, 0, []⟩] 0 0 ((List.replicate (A.ac.length * B.ac.length) false).set (s * B.ac.length + t) true) := by
  have hl := cod_lt hs ht
  refine ⟨QI.start _ _ _ _ _ _, by simp, fun j hj => ?_, by simp, fun m hm => ?_⟩
  · rw [getD_setB (by simp; exact hl)]
    simp only [List.length_set, List.length_replicate] at hj
    simp only [List.map_cons, List.map_nil, List.mem_singleton]
    show _ ↔ j = s * B.ac.length + t
    split
    · rename_i q; simp [q]
    · rename_i q
      simp [hj]
      omega
  · simp at hm
    subst hm
    exact ⟨hs, ht⟩
theorem DP.len {A B : Aut} {K : Nat} {sh : Nat × Nat → Bool} {x : Nat × Nat} {Q : List (Nod (Nat × Nat))} {i c : Nat} {mt : List Bool} (h : DP A B K sh x Q i c mt) : Q.length ≤ A.ac.length * B.ac.length := by
  have := nodup_small (A.ac.length * B.ac.length) (Q.map (cod B)) h.nd (fun y hy => by
    obtain ⟨n, hn, rfl⟩ := List.mem_map.1 hy
    obtain ⟨h1, h2⟩ := h.oks n hn
    exact cod_lt h1 h2)
  simpa using this
theorem DP.old {A B : Aut} {K : Nat} {sh : Nat × Nat → Bool} {x : Nat × Nat} {Q : List (Nod (Nat × Nat))} {i c : Nat} {mt : List Bool} (h : DP A B K sh x Q i c mt) {n : Nod (Nat × Nat)} (hi : Q[i]? = some n) (hx : dN A n.p.1 c < A.ac.length) (hy : dN B n.p.2 c < B.ac.length) (hm : mt.getD (dN A n.p.1 c * B.ac.length + dN B n.p.2 c) false = true) : DP A B K sh x Q i (c + 1) mt := by
  refine ⟨h.qi.old hi (fun v hv => ?_), h.ml, h.mem, h.nd, h.oks⟩
  obtain ⟨m, hmQ, hmc⟩ := List.mem_map.1 ((h.mem _ (by rw [h.ml]; exact cod_lt hx hy)).1 hm)
  obtain ⟨e1, e2⟩ := cod_inj (h.oks m hmQ).2 hy hmc
  refine ⟨m, hmQ, ?_⟩
  have : m.p = dd A B n.p c := Prod.ext e1 e2
  rw [this]
  exact hv
theorem DP.new {A B : Aut} {K : Nat} {sh : Nat × Nat → Bool} {x : Nat × Nat} {Q : List (Nod (Nat × Nat))} {i c : Nat} {mt : List Bool} (h : DP A B K sh x Q i c mt) {n : Nod (Nat × Nat)} (hi : Q[i]? = some n) (hc : c < K) (hx : dN A n.p.1 c < A.ac.length) (hy : dN B n.p.2 c < B.ac.length) (hm : mt.getD (dN A n.p.1 c * B.ac.length + dN B n.p.2 c) false = false) : DP A B K sh x (Q ++ [⟨dd A B n.p c, i, c, n.w ++ [c]⟩]) i (c + 1) (mt.set (dN A n.p.1 c * B.ac.length + dN B n.p.2 c) true) := by
  have hl := cod_lt hx hy
  have hnm : (dN A n.p.1 c * B.ac.length + dN B n.p.2 c) ∉ Q.map (cod B) := fun q => by
    rw [(h.mem _ (by rw [h.ml]; exact hl)).2 q] at hm
    cases hm
  refine ⟨h.qi.new hi hc, by simp [h.ml], fun j hj => ?_, ?_, fun m hmm => ?_⟩
  · rw [getD_setB (by rw [h.ml]; exact hl)]
    simp only [List.length_set] at hj
    rw [List.map_append, List.mem_append]
    simp only [List.map_cons, List.map_nil, List.mem_singleton]
    split
    · rename_i q; subst q; simp [cod, dd]
    · rename_i q
      rw [h.mem j hj]
      constructor
      · exact fun z => .inl z
      · rintro (z | z)
        · exact z
        · exact absurd z.symm q
  · rw [List.map_append, List.nodup_append]
    refine ⟨h.nd, by simp, fun a ha b hb e => ?_⟩
    simp only [List.map_cons, List.map_nil, List.mem_singleton] at hb
    subst hb
    subst e
    exact hnm ha
  · rcases List.mem_append.1 hmm with q | q
    · exact h.oks m q
    · simp at q
      subst q
      exact ⟨hx, hy⟩
theorem DP.next {A B : Aut} {K : Nat} {sh : Nat × Nat → Bool} {x : Nat × Nat} {Q : List (Nod (Nat × Nat))} {i : Nat} {mt : List Bool} (h : DP A B K sh x Q i K mt) : DP A B K sh x Q (i + 1) 0 mt := ⟨h.qi.next, h.ml, h.mem, h.nd, h.oks⟩
theorem made_rowB (w : World) {n base : Nat} (hn : n ≤ 16777216) (hb : base ≤ w.heap.size) : (w.alloc (.cells (madeCells #[.bool false] n) 4)).ownsRow base 4 1 (.slice (some ⟨w.heap.size, 0, none⟩) n n) n (bC (List.replicate n false)) := by
  refine ⟨by simp [bC], .inr ⟨w.heap.size, n, madeCells #[.bool false] n, rfl, hb, heap_alloc_last _ _, Nat.le_refl _, by unfold maxLen; omega, ?_, ?_⟩⟩
  · simp [madeCells]
  · apply List.ext_getElem?
    intro j
    by_cases hj : j < n
    · simp [madeCells, bC, hj, Nat.mod_one]
    · simp [madeCells, bC, hj]
theorem bC_set (l : List Bool) (i : Nat) (x : Bool) : bC (l.set i x) = (bC l).set i (.bool x) := by unfold bC; rw [List.map_set]
theorem bC_get {l : List Bool} {i : Nat} (h : i < l.length) : (bC l)[i]? = some (.bool (l.getD i false)) := by simp [bC, h]
theorem Try.info_pair10 : (Try.prog.info? 93).map (fun i => (i.zero, i.size, i.bytes)) = some (some (.agg #[.int .i64 0, .int .i64 0, .int .i64 0, .int .u8 0]), 4, 32) := by kernel_rfl
/-- The table of pairs in row gm, and the list of those that were met. -/
structure DM (V : World) (gm M : Nat) (mt : List Bool) (n : Nat) (qc : List Value) (vl : Value) (wr : World) : Prop where
  met : wr.ownsRow V.heap.size 4 1 (.slice (some ⟨gm, 0, none⟩) M M) M (bC mt)
  lst : wr.ownsRow V.heap.size 93 4 vl n qc
  below : Below V.heap.size V wr
theorem DM.call {V : World} {gm M : Nat} {mt : List Bool} {n : Nat} {qc : List Value} {vl : Value} {wr w2 : World} (h : DM V gm M mt n qc vl wr) (hb : Below wr.heap.size wr w2) : DM V gm M mt n qc vl w2 := ⟨own_below h.met hb, own_below h.lst hb, go_on h.below hb⟩
theorem DM.set {V : World} {gm M : Nat} {mt : List Bool} {n : Nat} {qc : List Value} {vl : Value} {wr : World} (h : DM V gm M mt n qc vl wr) (j : Nat) : DM V gm M (mt.set j true) n qc vl (wr.setCell ⟨gm, j, none⟩ (.bool true)) := by
  obtain ⟨hlo, cur, hg⟩ := own_blk h.met rfl
  refine ⟨by rw [bC_set]; exact (h.met.stored j (.bool true)).1, own_keep h.lst (fun b cur' _ hc => heap_set_other (fun e => by rw [e, hg] at hc; cases hc)), h.below.setCell (p := ⟨gm, j, none⟩) hlo _⟩
theorem DM.app {V : World} {gm M : Nat} {mt : List Bool} {n : Nat} {qc new : List Value} {vl vl' : Value} {wr w2 : World} {o : Obj} (h : DM V gm M mt n qc vl wr) (hg : (wr.alloc o).grownBy w2 vl.ownBlock) (ho : w2.ownsRow V.heap.size 93 4 vl' (n + 1) (qc ++ new)) : DM V gm M mt (n + 1) (qc ++ new) vl' w2 := by
  refine ⟨own_keep h.met (fun b cur _ hc => ?_), ho, (h.below.alloc (by have := h.below.size; omega) o).grown hg (by have := h.below.size; simp; omega) (fun b hb => (h.lst.lt b hb).1)⟩
  have hlt := (Array.getElem?_eq_some_iff.1 hc).1
  rw [hg.block b (by simp; omega) (fun e => ?_)]
  · exact (below_new wr o).block b hlt
  · obtain ⟨_, cur', hc'⟩ := own_blk h.lst e.symm
    rw [hc] at hc'
    cases hc'
theorem set_new1 (w : World) (cur : Array Value) (t : TypeId) (z : Nat) (x : Value) : (w.alloc (.cells cur t)).setCell ⟨w.heap.size, z, none⟩ x = w.alloc (.cells (cur.setIfInBounds z x) t) := by
  unfold World.setCell World.alloc
  congr 1
  apply Array.ext
  · simp
  · intro i h1 h2
    simp only [Array.getElem_modify, Array.getElem_push]
    by_cases e : w.heap.size = i
    · subst e; simp
    · rw [if_neg e]
      simp only [Array.size_push, Array.size_modify] at h1 ⊢
      split <;> first | rfl | (exfalso; omega)
/-- What Apart answers. -/
noncomputable def apB (A B : Aut) (s t : Nat) : Option (List Nat) := lsh (dd A B) A.k.toNat (sx A B) (s, t)

set_option maxHeartbeats 8000000 in
set_option maxRecDepth 100000 in
theorem rapart_any (va vb : Value) (A B : Aut) (w : World) (ha : AR w va A) (hb : AR w vb B) (G : Good A) (H : Good B) (hkk : B.k = A.k) (s t : Nat) (hs : s < A.ac.length) (ht : t < B.ac.length) :
    Calls Try.prog 43 #[va, .int .i64 s, vb, .int .i64 t] w fun e w' => e = .returned (.tuple #[.string (apS (apB A B s t)), .bool (apF (apB A B s t))]) ∧ Below w.heap.size w w' := by
  obtain ⟨an, cn, aa, ca, ea, k1, k2⟩ := ha.is
  obtain ⟨bn, dn, ba, da, eb, l1, l2⟩ := hb.is
  have hn1 := G.n1
  have hn2 := G.n2
  have hm1 := H.n1
  have hm2 := H.n2
  have HG : Hid (Good A) := G
  have HH : Hid (Good B) := H
  have HKB : Hid (B.k = A.k) := hkk
  have hk1 := G.k1
  have hk8 := G.k8
  obtain ⟨K, hK⟩ : ∃ K : Nat, A.k.toNat = K := ⟨_, rfl⟩
  have HKK : Hid (A.k = (K : Int) ∧ 1 ≤ K ∧ K ≤ 8 ∧ A.k.toNat = K) := ⟨by omega, by omega, by omega, hK⟩
  obtain ⟨ga, oa, rfl, _, _⟩ := k2.bool (i := 0) (by omega)
  obtain ⟨gx, ox, rfl, _, _⟩ := k1.int (i := 0) (by have := (G.at (s := 0) (c := 0) (by omega) (by omega)).1; omega)
  obtain ⟨gb, ob, rfl, _, _⟩ := l2.bool (i := 0) (by omega)
  obtain ⟨gy, oy, rfl, _, _⟩ := l1.int (i := 0) (by have := (H.at (s := 0) (c := 0) (by omega) (by omega)).1; omega)
  have CA : Hid (∀ y i, Below w.heap.size w y → i < A.ac.length → y.cell? ⟨ga, oa + i, none⟩ = some (.bool (A.ac.getD i false))) := fun y i hy hi => by
    obtain ⟨g', o', e', _, hc'⟩ := (k2.stay hy).bool hi
    simp only [Option.some.injEq, Addr.mk.injEq] at e'
    obtain ⟨rfl, rfl, _⟩ := e'
    exact hc'
  have CX : Hid (∀ y i, Below w.heap.size w y → i < A.nx.length → y.cell? ⟨gx, ox + i, none⟩ = some (.int .i64 (A.nx.getD i 0))) := fun y i hy hi => by
    obtain ⟨g', o', e', _, hc'⟩ := (k1.stay hy).int hi
    simp only [Option.some.injEq, Addr.mk.injEq] at e'
    obtain ⟨rfl, rfl, _⟩ := e'
    exact hc'
  have CB : Hid (∀ y i, Below w.heap.size w y → i < B.ac.length → y.cell? ⟨gb, ob + i, none⟩ = some (.bool (B.ac.getD i false))) := fun y i hy hi => by
    obtain ⟨g', o', e', _, hc'⟩ := (l2.stay hy).bool hi
    simp only [Option.some.injEq, Addr.mk.injEq] at e'
    obtain ⟨rfl, rfl, _⟩ := e'
    exact hc'
  have CY : Hid (∀ y i, Below w.heap.size w y → i < B.nx.length → y.cell? ⟨gy, oy + i, none⟩ = some (.int .i64 (B.nx.getD i 0))) := fun y i hy hi => by
    obtain ⟨g', o', e', _, hc'⟩ := (l1.stay hy).int hi
    simp only [Option.some.injEq, Addr.mk.injEq] at e'
    obtain ⟨rfl, rfl, _⟩ := e'
    exact hc'
  obtain ⟨i0, hi, hz0, hz1, hz2⟩ := info_parts Try.info_bool
  obtain ⟨i1, hj, hq0, hq1, hq2⟩ := info_parts Try.info_pair10
  rw [hkk] at eb
  subst ea
  subst eb
  clear ha hb k1 k2 l1 l2 G H hk1 hk8 hK hkk
  obtain ⟨V, hV⟩ : ∃ V, V = (w.alloc (.cells #[.int .i64 A.k, .slice (some ⟨gx, ox, none⟩) A.nx.length cn, .slice (some ⟨ga, oa, none⟩) A.ac.length ca] 25)).alloc (.cells #[.int .i64 A.k, .slice (some ⟨gy, oy, none⟩) B.nx.length dn, .slice (some ⟨gb, ob, none⟩) B.ac.length da] 25) := ⟨_, rfl⟩
  have HVE : Hid (V = (w.alloc (.cells #[.int .i64 A.k, .slice (some ⟨gx, ox, none⟩) A.nx.length cn, .slice (some ⟨ga, oa, none⟩) A.ac.length ca] 25)).alloc (.cells #[.int .i64 A.k, .slice (some ⟨gy, oy, none⟩) B.nx.length dn, .slice (some ⟨gb, ob, none⟩) B.ac.length da] 25)) := hV
  have HVS : Hid (V.heap.size = w.heap.size + 1 + 1) := by show _ = _; rw [hV]; simp
  have HBV : Hid (Below w.heap.size w V) := by show Below _ _ _; rw [hV]; exact go_on (below_new _ _) (below_new _ _)
  have HRA : Hid (RowAt V w.heap.size #[.int .i64 A.k, .slice (some ⟨gx, ox, none⟩) A.nx.length cn, .slice (some ⟨ga, oa, none⟩) A.ac.length ca]) := by show RowAt _ _ _; rw [hV]; exact (RowAt.last _ _ _).alloc _
  have HRB : Hid (RowAt V (w.heap.size + 1) #[.int .i64 A.k, .slice (some ⟨gy, oy, none⟩) B.nx.length dn, .slice (some ⟨gb, ob, none⟩) B.ac.length da]) := by
    have := RowAt.last (w.alloc (.cells #[.int .i64 A.k, .slice (some ⟨gx, ox, none⟩) A.nx.length cn, .slice (some ⟨ga, oa, none⟩) A.ac.length ca] 25)) #[.int .i64 A.k, .slice (some ⟨gy, oy, none⟩) B.nx.length dn, .slice (some ⟨gb, ob, none⟩) B.ac.length da] 25
    rw [World.size_alloc] at this
    show RowAt _ _ _
    rw [hV]; exact this
  clear hV
  obtain ⟨M, hM⟩ : ∃ M, A.ac.length * B.ac.length = M := ⟨_, rfl⟩
  have HMM : Hid (A.ac.length * B.ac.length = M) := hM
  have hMb : M ≤ 16777216 := by rw [← hM]; exact Nat.mul_le_mul hn2 hm2
  have hMp : 0 < M := by rw [← hM]; exact Nat.mul_pos (by omega) (by omega)
  have hwM : IntKind.i64.wrap ((A.ac.length : Int) * (B.ac.length : Int)) = (M : Int) := by
    have e : (A.ac.length : Int) * (B.ac.length : Int) = (M : Int) := by rw [← hM]; simp
    rw [e, IntKind.wrap_i64]; omega
  have hmk := fun w0 => run_make (P := Try.prog) w0 23 4 i0 (.bool false) Try.underlying23 hi hz0 .i64 .i64 (M : Int) (M : Int) (by omega) (by omega) (by rw [hz2]; omega) (by omega)
  rw [hz1] at hmk
  simp only [Nat.mul_one] at hmk
  have hst0 := cod_lt hs ht
  rw [hM] at hst0
  obtain ⟨p0, hp0⟩ : ∃ p, s * B.ac.length = p := ⟨_, rfl⟩
  obtain ⟨z0, hz00⟩ : ∃ z, p0 + t = z := ⟨_, rfl⟩
  rw [hp0, hz00] at hst0
  have hp0b : p0 ≤ 16777216 := by omega
  have hw1 : IntKind.i64.wrap ((s : Int) * (B.ac.length : Int)) = (p0 : Int) := by
    have e : (s : Int) * (B.ac.length : Int) = (p0 : Int) := by rw [← hp0]; simp
    rw [e, IntKind.wrap_i64]; omega
  have hw2 : IntKind.i64.wrap ((p0 : Int) + (t : Int)) = (z0 : Int) := by rw [IntKind.wrap_i64]; omega
  have hzI : (z0 : Int) < M := by omega
  have HZ0 : Hid (s * B.ac.length + t = z0) := by show _ = _; rw [hp0, hz00]
  obtain ⟨X1, hX1⟩ : ∃ X1, X1 = V.alloc (.cells (madeCells #[.bool false] M) 4) := ⟨_, rfl⟩
  have HX1 : Hid (X1 = V.alloc (.cells (madeCells #[.bool false] M) 4)) := hX1
  have hr0 : X1.ownsRow V.heap.size 4 1 (.slice (some ⟨V.heap.size, 0, none⟩) M M) M (bC (List.replicate M false)) := by rw [hX1]; exact made_rowB V hMb (Nat.le_refl _)
  have HR0 : Hid (X1.ownsRow V.heap.size 4 1 (.slice (some ⟨V.heap.size, 0, none⟩) M M) M (bC (List.replicate M false))) := hr0
  have HBX : Hid (Below V.heap.size V X1) := by rw [hX1]; exact below_new _ _
  obtain ⟨gm, hgm⟩ : ∃ gm, V.heap.size = gm := ⟨_, rfl⟩
  have cx1 : X1.cell? ⟨gm, z0, none⟩ = some (.bool false) := by rw [← hgm]; exact (hr0.cellAt z0 (by omega)).trans (by rw [bC_get (by simpa using hst0)]; simp [hst0])
  have fx1 : X1.frozen? ⟨gm, z0, none⟩ = false := by rw [← hgm]; exact hr0.frozenAt z0
  have HGM : Hid (V.heap.size = gm) := hgm
  have csa := HRA.out.cell
  have csb := HRB.out.cell
  have cVm : w.heap.size + 1 + 1 = gm := by rw [← hgm]; exact HVS.out.symm
  have HCV : Hid (w.heap.size + 1 + 1 = gm) := cVm
  have cx2 : (((w.alloc (.cells #[.int .i64 A.k, .slice (some ⟨gx, ox, none⟩) A.nx.length cn, .slice (some ⟨ga, oa, none⟩) A.ac.length ca] 25)).alloc (.cells #[.int .i64 A.k, .slice (some ⟨gy, oy, none⟩) B.nx.length dn, .slice (some ⟨gb, ob, none⟩) B.ac.length da] 25)).alloc (.cells (madeCells #[.bool false] M) 4)).cell? ⟨w.heap.size + 1 + 1, z0, none⟩ = some (.bool false) := by rw [← HVE.out, ← hX1, cVm]; exact cx1
  have fx2 : (((w.alloc (.cells #[.int .i64 A.k, .slice (some ⟨gx, ox, none⟩) A.nx.length cn, .slice (some ⟨ga, oa, none⟩) A.ac.length ca] 25)).alloc (.cells #[.int .i64 A.k, .slice (some ⟨gy, oy, none⟩) B.nx.length dn, .slice (some ⟨gb, ob, none⟩) B.ac.length da] 25)).alloc (.cells (madeCells #[.bool false] M) 4)).frozen? ⟨w.heap.size + 1 + 1, z0, none⟩ = false := by rw [← HVE.out, ← hX1, cVm]; exact fx1
  clear hM hp0 hz00 hr0 hX1 cVm hgm
  have HM0 : Hid (DM V (w.heap.size + 1 + 1) M ((List.replicate M false).set z0 true) 1 (([⟨(s, t), 0, 0, []⟩] : List (Nod (Nat × Nat))).flatMap pcC) (.slice (some ⟨w.heap.size + 1 + 1 + 1, 0, none⟩) 1 1) ((((w.alloc (.cells #[.int .i64 A.k, .slice (some ⟨gx, ox, none⟩) A.nx.length cn, .slice (some ⟨ga, oa, none⟩) A.ac.length ca] 25)).alloc (.cells #[.int .i64 A.k, .slice (some ⟨gy, oy, none⟩) B.nx.length dn, .slice (some ⟨gb, ob, none⟩) B.ac.length da] 25)).alloc (.cells ((madeCells #[.bool false] M).setIfInBounds z0 (.bool true)) 4)).alloc (.cells #[.int .i64 (s : Int), .int .i64 (t : Int), .int .i64 (-1), .int .u8 0] 93))) := by
    have e1 : (((w.alloc (.cells #[.int .i64 A.k, .slice (some ⟨gx, ox, none⟩) A.nx.length cn, .slice (some ⟨ga, oa, none⟩) A.ac.length ca] 25)).alloc (.cells #[.int .i64 A.k, .slice (some ⟨gy, oy, none⟩) B.nx.length dn, .slice (some ⟨gb, ob, none⟩) B.ac.length da] 25)).alloc (.cells ((madeCells #[.bool false] M).setIfInBounds z0 (.bool true)) 4)) = X1.setCell ⟨V.heap.size, z0, none⟩ (.bool true) := by rw [HX1.out, ← HVE.out, set_new1]
    show DM _ _ _ _ _ _ _ _
    rw [e1]
    have hr := (HR0.out.stored z0 (.bool true)).1
    rw [← bC_set] at hr
    have hx1s : (X1.setCell ⟨V.heap.size, z0, none⟩ (.bool true)).heap.size = w.heap.size + 1 + 1 + 1 := by rw [HX1.out]; simp [World.setCell]; have := HVS.out; omega
    refine ⟨?_, ?_, ?_⟩
    · have := hr.alloc (.cells #[.int .i64 (s : Int), .int .i64 (t : Int), .int .i64 (-1), .int .u8 0] 93)
      rw [HVS.out] at this
      rw [HVS.out]
      exact this
    · refine ⟨rfl, .inr ⟨w.heap.size + 1 + 1 + 1, 1, #[.int .i64 (s : Int), .int .i64 (t : Int), .int .i64 (-1), .int .u8 0], rfl, by have := HVS.out; omega, ?_, Nat.le_refl _, by unfold maxLen; omega, rfl, rfl⟩⟩
      have := heap_alloc_last (X1.setCell ⟨V.heap.size, z0, none⟩ (.bool true)) (.cells #[.int .i64 (s : Int), .int .i64 (t : Int), .int .i64 (-1), .int .u8 0] 93)
      rw [hx1s] at this
      exact this
    · exact go_on (HBX.out.setCell (p := ⟨V.heap.size, z0, none⟩) (Nat.le_refl _) _) (below_new _ _)
  have HP0 : Hid (DP A B K (sx A B) (s, t) [⟨(s, t), 0, 0, []⟩] 0 0 ((List.replicate M false).set z0 true)) := by
    have := DP.start (A := A) (B := B) (K := K) (sh := sx A B) hs ht
    rw [HMM.out, HZ0.out] at this
    exact this
  clear HR0 HBX HX1 HZ0 HGM HCV
  go_enter Try.func43, Try.ntmps43
  go_wp2_with fail
  clear cx1 fx1 cx2 fx2 csa csb hmk hw1 hw2 hwM hzI hst0 hp0b
  go_loopw [13, 12] (fun vi vl wr => ∃ (i : Nat) (Q : List (Nod (Nat × Nat))) (mt : List Bool), vi = .int .i64 i ∧ i ≤ Q.length ∧ DM V (w.heap.size + 1 + 1) M mt Q.length (Q.flatMap pcC) vl wr ∧ DP A B K (sx A B) (s, t) Q i 0 mt ∧ (∀ (j : Nat) (m : Nod (Nat × Nat)), j < i → Q[j]? = some m → sx A B m.p = false)) (fun vi _ _ => M - (intOf vi).toNat)
  case atStart => exact ⟨0, [⟨(s, t), 0, 0, []⟩], _, rfl, Nat.zero_le _, HM0.out, HP0.out, fun j m hj => by omega⟩
  case round =>
    clear HM0 HP0
    obtain ⟨i, Q, mt, rfl, hiQ, hA, hP, hf⟩ := hrel
    have hQl := hP.len
    rw [HMM.out] at hQl
    obtain ⟨qa, qc, hvl⟩ := own_shape hA.lst
    subst hvl
    have HA : Hid (DM V (w.heap.size + 1 + 1) M mt Q.length (Q.flatMap pcC) (.slice qa Q.length qc) wr) := hA
    have HP : Hid (DP A B K (sx A B) (s, t) Q i 0 mt) := hP
    have HF : Hid (∀ (j : Nat) (m : Nod (Nat × Nat)), j < i → Q[j]? = some m → sx A B m.p = false) := hf
    by_cases hlt : i < Q.length
    · have hiI : (i : Int) < Q.length := by omega
      obtain ⟨n, hn⟩ : ∃ n, Q[i]? = some n := ⟨Q[i], List.getElem?_eq_getElem hlt⟩
      have HN : Hid (Q[i]? = some n) := hn
      obtain ⟨gq, rfl⟩ : ∃ gq, qa = some ⟨gq, 0, none⟩ := by
        rcases hA.lst.2 with ⟨_, h0⟩ | ⟨g', cap', cur, hv, _⟩
        · omega
        · simp only [Value.slice.injEq] at hv
          exact ⟨g', hv.1⟩
      have c0 := pc_cell hA.lst hn (j := 0) (by omega)
      have c1 := pc_cell hA.lst hn (j := 1) (by omega)
      obtain ⟨hX, hY⟩ := hP.oks n (List.mem_of_getElem? hn)
      have HXY : Hid (n.p.1 < A.ac.length ∧ n.p.2 < B.ac.length) := ⟨hX, hY⟩
      obtain ⟨X, hXe⟩ : ∃ X, n.p.1 = X := ⟨_, rfl⟩
      obtain ⟨Y, hYe⟩ : ∃ Y, n.p.2 = Y := ⟨_, rfl⟩
      have HXE : Hid (n.p.1 = X ∧ n.p.2 = Y) := ⟨hXe, hYe⟩
      have c0' : wr.cell? ⟨gq, i * 4, none⟩ = some (.int .i64 (X : Int)) := by rw [← hXe]; exact c0
      have c1' : wr.cell? ⟨gq, i * 4 + 1, none⟩ = some (.int .i64 (Y : Int)) := by rw [← hYe]; exact c1
      rw [hXe] at hX
      rw [hYe] at hY
      have hXI : (X : Int) < A.ac.length := by omega
      have hYI : (Y : Int) < B.ac.length := by omega
      have hbm := go_on HBV.out hA.below
      have ca1 := CA.out wr X hbm hX
      have ca2 := CB.out wr Y hbm hY
      obtain ⟨x, hx⟩ : ∃ x, A.ac.getD X false = x := ⟨_, rfl⟩
      obtain ⟨y0, hy0⟩ : ∃ y0, B.ac.getD Y false = y0 := ⟨_, rfl⟩
      rw [hx] at ca1
      rw [hy0] at ca2
      have HSX : Hid (sx A B n.p = (x != y0)) := by show _ = _; unfold sx aN; rw [hXe, hYe, hx, hy0]
      have S0 : (∀ o, wr.drew.cell? ⟨w.heap.size, o, none⟩ = (#[.int .i64 A.k, .slice (some ⟨gx, ox, none⟩) A.nx.length cn, .slice (some ⟨ga, oa, none⟩) A.ac.length ca] : Array Value)[o]?) ∧ (∀ o, wr.drew.cell? ⟨w.heap.size + 1, o, none⟩ = (#[.int .i64 A.k, .slice (some ⟨gy, oy, none⟩) B.nx.length dn, .slice (some ⟨gb, ob, none⟩) B.ac.length da] : Array Value)[o]?) ∧ wr.drew.cell? ⟨gq, i * 4, none⟩ = some (.int .i64 (X : Int)) ∧ wr.drew.cell? ⟨gq, i * 4 + 1, none⟩ = some (.int .i64 (Y : Int)) ∧ wr.drew.cell? ⟨ga, oa + X, none⟩ = some (.bool x) ∧ wr.drew.cell? ⟨gb, ob + Y, none⟩ = some (.bool y0) := ⟨(HRA.out.stay hA.below).cell, (HRB.out.stay hA.below).cell, c0', c1', ca1, ca2⟩
      obtain ⟨wz, hwz⟩ : ∃ wz, wr.drew = wz := ⟨_, rfl⟩
      have HAz : Hid (DM V (w.heap.size + 1 + 1) M mt Q.length (Q.flatMap pcC) (.slice (some ⟨gq, 0, none⟩) Q.length qc) wz) := by rw [← hwz]; exact hA.call (Below.refl _ _).drew
      clear c0 c1 c0' c1' hXe hYe hn hA hP hf ca1 ca2 hx hy0 hbm
      go_wp2_with fail
      by_cases hxy : x = y0
      case neg =>
        have HO : Hid (apB A B s t = some n.w) := by
          show _ = _
          unfold apB
          rw [HKK.out.2.2.2]
          refine HP.out.qi.first HN.out ?_ HF.out
          rw [HSX.out]
          simpa using hxy
        have HWO : Hid (Calls Try.prog 60 #[.slice (some ⟨gq, 0, none⟩) Q.length qc, .int .i64 i] wz fun e w' => e = .returned (.string ⟨(lB n.w).toArray⟩) ∧ Below wz.heap.size wz w') := rway_any V.heap.size gq qc Q K HKK.out.2.2.1 (by omega) HP.out.qi.ups i n HN.out wz HAz.out.lst
        cases x <;> cases y0 <;> first | exact absurd rfl hxy | skip
        · clear hxy
          go_region_held3 (fun y => (∀ o, y.cell? ⟨w.heap.size, o, none⟩ = (#[.int .i64 A.k, .slice (some ⟨gx, ox, none⟩) A.nx.length cn, .slice (some ⟨ga, oa, none⟩) A.ac.length ca] : Array Value)[o]?) ∧ (∀ o, y.cell? ⟨w.heap.size + 1, o, none⟩ = (#[.int .i64 A.k, .slice (some ⟨gy, oy, none⟩) B.nx.length dn, .slice (some ⟨gb, ob, none⟩) B.ac.length da] : Array Value)[o]?) ∧ y.cell? ⟨gq, i * 4, none⟩ = some (.int .i64 (X : Int)) ∧ y.cell? ⟨gq, i * 4 + 1, none⟩ = some (.int .i64 (Y : Int)) ∧ y.cell? ⟨ga, oa + X, none⟩ = some (.bool false) ∧ y.cell? ⟨gb, ob + Y, none⟩ = some (.bool true)) (first | exact S0 | assumption) (fail)
          clear S0
          rw [hwz]
          clear hwz
          go_wp2_with fail
          refine HWO.out.mono ?_
          rintro e w9 ⟨rfl, hb9⟩
          have HB9 : Hid (Below w.heap.size w w9) := go_on (go_on HBV.out HAz.out.below) hb9
          clear hb9
          go_wp2_with fail
          go_ret2
          exact ⟨by rw [HO.out]; rfl, HB9.out⟩
        · clear hxy
          go_region_held3 (fun y => (∀ o, y.cell? ⟨w.heap.size, o, none⟩ = (#[.int .i64 A.k, .slice (some ⟨gx, ox, none⟩) A.nx.length cn, .slice (some ⟨ga, oa, none⟩) A.ac.length ca] : Array Value)[o]?) ∧ (∀ o, y.cell? ⟨w.heap.size + 1, o, none⟩ = (#[.int .i64 A.k, .slice (some ⟨gy, oy, none⟩) B.nx.length dn, .slice (some ⟨gb, ob, none⟩) B.ac.length da] : Array Value)[o]?) ∧ y.cell? ⟨gq, i * 4, none⟩ = some (.int .i64 (X : Int)) ∧ y.cell? ⟨gq, i * 4 + 1, none⟩ = some (.int .i64 (Y : Int)) ∧ y.cell? ⟨ga, oa + X, none⟩ = some (.bool true) ∧ y.cell? ⟨gb, ob + Y, none⟩ = some (.bool false)) (first | exact S0 | assumption) (fail)
          clear S0
          rw [hwz]
          clear hwz
          go_wp2_with fail
          refine HWO.out.mono ?_
          rintro e w9 ⟨rfl, hb9⟩
          have HB9 : Hid (Below w.heap.size w w9) := go_on (go_on HBV.out HAz.out.below) hb9
          clear hb9
          go_wp2_with fail
          go_ret2
          exact ⟨by rw [HO.out]; rfl, HB9.out⟩
      case pos =>
        subst hxy
        have HSF : Hid (sx A B n.p = false) := by show _ = _; rw [HSX.out]; simp
        go_region_held3 (fun y => (∀ o, y.cell? ⟨w.heap.size, o, none⟩ = (#[.int .i64 A.k, .slice (some ⟨gx, ox, none⟩) A.nx.length cn, .slice (some ⟨ga, oa, none⟩) A.ac.length ca] : Array Value)[o]?) ∧ (∀ o, y.cell? ⟨w.heap.size + 1, o, none⟩ = (#[.int .i64 A.k, .slice (some ⟨gy, oy, none⟩) B.nx.length dn, .slice (some ⟨gb, ob, none⟩) B.ac.length da] : Array Value)[o]?) ∧ y.cell? ⟨gq, i * 4, none⟩ = some (.int .i64 (X : Int)) ∧ y.cell? ⟨gq, i * 4 + 1, none⟩ = some (.int .i64 (Y : Int)) ∧ y.cell? ⟨ga, oa + X, none⟩ = some (.bool x) ∧ y.cell? ⟨gb, ob + Y, none⟩ = some (.bool x)) (first | exact S0 | assumption) (fail)
        clear S0
        rw [hwz]
        clear hwz
        go_wp2_with fail
        go_loopw [14, 12] (fun vc vl wr => ∃ (c : Nat) (Q : List (Nod (Nat × Nat))) (mt : List Bool), vc = .int .i64 c ∧ c ≤ K ∧ Q[i]? = some n ∧ DM V (w.heap.size + 1 + 1) M mt Q.length (Q.flatMap pcC) vl wr ∧ DP A B K (sx A B) (s, t) Q i c mt ∧ (∀ (j : Nat) (m : Nod (Nat × Nat)), j < i → Q[j]? = some m → sx A B m.p = false)) (fun vc _ _ => K - (intOf vc).toNat)
        case atStart => exact ⟨0, Q, mt, rfl, Nat.zero_le _, HN.out, HAz.out, HP.out, HF.out⟩
        case round =>
          clear HAz HA HP HF HN hiI hlt hQl hiQ
          obtain ⟨c, Q, mt, rfl, hcK, hn, hA, hP, hf⟩ := hrel
          have hlt := (List.getElem?_eq_some_iff.1 hn).1
          have hQl := hP.len
          rw [HMM.out] at hQl
          obtain ⟨qa, qc, hvl⟩ := own_shape hA.lst
          subst hvl
          obtain ⟨gq, rfl⟩ : ∃ gq, qa = some ⟨gq, 0, none⟩ := by
            rcases hA.lst.2 with ⟨_, h0⟩ | ⟨g', cap', cur, hv, _⟩
            · omega
            · simp only [Value.slice.injEq] at hv
              exact ⟨g', hv.1⟩
          have HA : Hid (DM V (w.heap.size + 1 + 1) M mt Q.length (Q.flatMap pcC) (.slice (some ⟨gq, 0, none⟩) Q.length qc) wr) := hA
          have HP : Hid (DP A B K (sx A B) (s, t) Q i c mt) := hP
          have HF : Hid (∀ (j : Nat) (m : Nod (Nat × Nat)), j < i → Q[j]? = some m → sx A B m.p = false) := hf
          have HN : Hid (Q[i]? = some n) := hn
          have hiI : (i : Int) < Q.length := by omega
          have csa := (HRA.out.stay hA.below).cell
          by_cases hc : c < K
          · have hcI : (c : Int) < A.k := by have := HKK.out.1; omega
            have hcB : (c : Int) < B.k := by rw [HKB.out]; exact hcI
            have hc8 : c < 8 := by have := HKK.out.2.2.1; omega
            have c0 := pc_cell hA.lst hn (j := 0) (by omega)
            have c1 := pc_cell hA.lst hn (j := 1) (by omega)
            have c0' : wr.cell? ⟨gq, i * 4, none⟩ = some (.int .i64 (X : Int)) := by rw [← HXE.out.1]; exact c0
            have c1' : wr.cell? ⟨gq, i * 4 + 1, none⟩ = some (.int .i64 (Y : Int)) := by rw [← HXE.out.2]; exact c1
            have hXl : X < A.ac.length := by rw [← HXE.out.1]; exact HXY.out.1
            have hYl : Y < B.ac.length := by rw [← HXE.out.2]; exact HXY.out.2
            obtain ⟨a1, a2, a3⟩ := HG.out.at hXl hcI
            obtain ⟨b1, b2, b3⟩ := HH.out.at hYl hcB
            rw [HKB.out] at b1 b2
            have hbw := go_on HBV.out hA.below
            have n1 := CX.out wr _ hbw a1
            have n2 := CY.out wr _ hbw b1
            rw [a2] at n1
            rw [b2] at n2
            obtain ⟨D1, hD1⟩ : ∃ D, dN A X c = D := ⟨_, rfl⟩
            obtain ⟨D2, hD2⟩ : ∃ D, dN B Y c = D := ⟨_, rfl⟩
            have HDE : Hid (dN A n.p.1 c = D1 ∧ dN B n.p.2 c = D2) := ⟨by rw [HXE.out.1]; exact hD1, by rw [HXE.out.2]; exact hD2⟩
            rw [hD1] at n1 a3
            rw [hD2] at n2 b3
            obtain ⟨K0, hK0⟩ : ∃ K0, A.k.toNat = K0 := ⟨_, rfl⟩
            have hK08 : K0 ≤ 8 := by have := HKK.out; omega
            have hKI : A.k = (K0 : Int) := by have := HKK.out; omega
            rw [hK0] at n1 n2 a1 b1
            have u1 : (X : Int) * A.k = ((X * K0 : Nat) : Int) := by rw [hKI]; simp
            have u2 : (Y : Int) * A.k = ((Y * K0 : Nat) : Int) := by rw [hKI]; simp
            have t1 : X * K0 ≤ 4095 * 8 := Nat.mul_le_mul (by omega) hK08
            have t2 : Y * K0 ≤ 4095 * 8 := Nat.mul_le_mul (by omega) hK08
            obtain ⟨p1, hp1⟩ : ∃ p, X * K0 = p := ⟨_, rfl⟩
            obtain ⟨p2, hp2⟩ : ∃ p, Y * K0 = p := ⟨_, rfl⟩
            rw [hp1] at u1 t1 n1 a1
            rw [hp2] at u2 t2 n2 b1
            obtain ⟨q1, hq1'⟩ : ∃ q, p1 + c = q := ⟨_, rfl⟩
            obtain ⟨q2, hq2'⟩ : ∃ q, p2 + c = q := ⟨_, rfl⟩
            rw [hq1'] at n1 a1
            rw [hq2'] at n2 b1
            have e1 : IntKind.i64.wrap ((X : Int) * A.k) = (p1 : Int) := by rw [u1, IntKind.wrap_i64]; omega
            have e2 : IntKind.i64.wrap ((Y : Int) * A.k) = (p2 : Int) := by rw [u2, IntKind.wrap_i64]; omega
            have e3 : IntKind.i64.wrap ((p1 : Int) + c) = (q1 : Int) := by rw [IntKind.wrap_i64]; omega
            have e4 : IntKind.i64.wrap ((p2 : Int) + c) = (q2 : Int) := by rw [IntKind.wrap_i64]; omega
            have g1 : (q1 : Int) < A.nx.length := by omega
            have g2 : (q2 : Int) < B.nx.length := by omega
            have hz := cod_lt a3 b3
            rw [HMM.out] at hz
            have u3 : (D1 : Int) * (B.ac.length : Int) = ((D1 * B.ac.length : Nat) : Int) := by simp
            obtain ⟨p3, hp3⟩ : ∃ p, D1 * B.ac.length = p := ⟨_, rfl⟩
            rw [hp3] at u3 hz
            obtain ⟨z, hze⟩ : ∃ z, p3 + D2 = z := ⟨_, rfl⟩
            rw [hze] at hz
            have e5 : IntKind.i64.wrap ((D1 : Int) * (B.ac.length : Int)) = (p3 : Int) := by rw [u3, IntKind.wrap_i64]; omega
            have e6 : IntKind.i64.wrap ((p3 : Int) + (D2 : Int)) = (z : Int) := by rw [IntKind.wrap_i64]; omega
            have hzI : (z : Int) < M := by omega
            have HZE : Hid (D1 * B.ac.length + D2 = z ∧ D1 < A.ac.length ∧ D2 < B.ac.length) := ⟨by rw [hp3, hze], a3, b3⟩
            have KS : Hid (∀ y, Below wr.heap.size wr y → (∀ o, y.cell? ⟨w.heap.size, o, none⟩ = (#[.int .i64 A.k, .slice (some ⟨gx, ox, none⟩) A.nx.length cn, .slice (some ⟨ga, oa, none⟩) A.ac.length ca] : Array Value)[o]?) ∧ (∀ o, y.cell? ⟨w.heap.size + 1, o, none⟩ = (#[.int .i64 A.k, .slice (some ⟨gy, oy, none⟩) B.nx.length dn, .slice (some ⟨gb, ob, none⟩) B.ac.length da] : Array Value)[o]?) ∧ y.cell? ⟨gq, i * 4, none⟩ = some (.int .i64 (X : Int)) ∧ y.cell? ⟨gq, i * 4 + 1, none⟩ = some (.int .i64 (Y : Int)) ∧ y.cell? ⟨gx, ox + q1, none⟩ = some (.int .i64 (D1 : Int)) ∧ y.cell? ⟨gy, oy + q2, none⟩ = some (.int .i64 (D2 : Int))) := fun y hy => by
              have q := go_on hA.below hy
              have qw := go_on HBV.out q
              have r0 := pc_cell (own_below hA.lst hy) hn (j := 0) (by omega)
              have r1 := pc_cell (own_below hA.lst hy) hn (j := 1) (by omega)
              refine ⟨(HRA.out.stay q).cell, (HRB.out.stay q).cell, by rw [← HXE.out.1]; exact r0, by rw [← HXE.out.2]; exact r1, ?_, ?_⟩
              · have v1 := CX.out y q1 qw a1
                have v2 := CX.out wr q1 hbw a1
                rw [v1, ← v2]; exact n1
              · have v1 := CY.out y q2 qw b1
                have v2 := CY.out wr q2 hbw b1
                rw [v1, ← v2]; exact n2
            have S1 := KS.out wr.drew (Below.refl _ _).drew
            clear c0 c1 c0' c1' n1 n2 a1 a2 a3 b1 b2 b3 u1 u2 u3 t1 t2 hp1 hp2 hp3 hq1' hq2' hze hD1 hD2 hK0 hKI hbw hA hP hf hn
            go_wp2_with fail
            go_region_held3 (fun y => (∀ o, y.cell? ⟨w.heap.size, o, none⟩ = (#[.int .i64 A.k, .slice (some ⟨gx, ox, none⟩) A.nx.length cn, .slice (some ⟨ga, oa, none⟩) A.ac.length ca] : Array Value)[o]?) ∧ (∀ o, y.cell? ⟨w.heap.size + 1, o, none⟩ = (#[.int .i64 A.k, .slice (some ⟨gy, oy, none⟩) B.nx.length dn, .slice (some ⟨gb, ob, none⟩) B.ac.length da] : Array Value)[o]?) ∧ y.cell? ⟨gq, i * 4, none⟩ = some (.int .i64 (X : Int)) ∧ y.cell? ⟨gq, i * 4 + 1, none⟩ = some (.int .i64 (Y : Int)) ∧ y.cell? ⟨gx, ox + q1, none⟩ = some (.int .i64 (D1 : Int)) ∧ y.cell? ⟨gy, oy + q2, none⟩ = some (.int .i64 (D2 : Int))) (first | exact S1 | assumption) (fail)
            clear S1 csa
            obtain ⟨wb, hwb⟩ : ∃ wb, wr.drew = wb := ⟨_, rfl⟩
            have hbb : Below wr.heap.size wr wb := by rw [← hwb]; exact (Below.refl _ _).drew
            rw [hwb]
            have S2 := KS.out wb.drew hbb.drew
            clear hwb
            go_wp2_with fail
            go_region_held3 (fun y => (∀ o, y.cell? ⟨w.heap.size, o, none⟩ = (#[.int .i64 A.k, .slice (some ⟨gx, ox, none⟩) A.nx.length cn, .slice (some ⟨ga, oa, none⟩) A.ac.length ca] : Array Value)[o]?) ∧ (∀ o, y.cell? ⟨w.heap.size + 1, o, none⟩ = (#[.int .i64 A.k, .slice (some ⟨gy, oy, none⟩) B.nx.length dn, .slice (some ⟨gb, ob, none⟩) B.ac.length da] : Array Value)[o]?) ∧ y.cell? ⟨gq, i * 4, none⟩ = some (.int .i64 (X : Int)) ∧ y.cell? ⟨gq, i * 4 + 1, none⟩ = some (.int .i64 (Y : Int)) ∧ y.cell? ⟨gx, ox + q1, none⟩ = some (.int .i64 (D1 : Int)) ∧ y.cell? ⟨gy, oy + q2, none⟩ = some (.int .i64 (D2 : Int))) (first | exact S2 | assumption) (fail)
            clear S2 KS
            obtain ⟨wc, hwc⟩ : ∃ wc, wb.drew = wc := ⟨_, rfl⟩
            have hbc : Below wr.heap.size wr wc := by rw [← hwc]; exact hbb.drew
            rw [hwc]
            have HAc : Hid (DM V (w.heap.size + 1 + 1) M mt Q.length (Q.flatMap pcC) (.slice (some ⟨gq, 0, none⟩) Q.length qc) wc) := HA.out.call hbc
            clear hwc hbb hbc
            have hml : mt.length = M := by rw [HP.out.ml]; exact HMM.out
            have cz : wc.cell? ⟨w.heap.size + 1 + 1, z, none⟩ = some (.bool (mt.getD z false)) := (HAc.out.met.cellAt z (by omega)).trans (bC_get (by omega))
            obtain ⟨b, hbe⟩ : ∃ b, mt.getD z false = b := ⟨_, rfl⟩
            rw [hbe] at cz
            cases b with
            | true =>
              have HPN : Hid (DP A B K (sx A B) (s, t) Q i (c + 1) mt) := HP.out.old HN.out (by rw [HDE.out.1]; exact HZE.out.2.1) (by rw [HDE.out.2]; exact HZE.out.2.2) (by rw [HDE.out.1, HDE.out.2, HZE.out.1]; exact hbe)
              clear hbe hml
              go_wp2_with fail
              go_roundw
              case rel => exact ⟨c + 1, Q, mt, by go_num, by omega, HN.out, HAc.out, HPN.out, HF.out⟩
              case measure => simp [intOf]; omega
            | false =>
              have HPN : Hid (DP A B K (sx A B) (s, t) (Q ++ [⟨dd A B n.p c, i, c, n.w ++ [c]⟩]) i (c + 1) (mt.set z true)) := by
                have := HP.out.new HN.out hc (by rw [HDE.out.1]; exact HZE.out.2.1) (by rw [HDE.out.2]; exact HZE.out.2.2) (by rw [HDE.out.1, HDE.out.2, HZE.out.1]; exact hbe)
                rw [HDE.out.1, HDE.out.2, HZE.out.1] at this
                exact this
              have hQM : Q.length + 1 ≤ M := by have := HPN.out.len; rw [HMM.out] at this; simpa using this
              have fz : wc.frozen? ⟨w.heap.size + 1 + 1, z, none⟩ = false := HAc.out.met.frozenAt z
              have HAs : Hid (DM V (w.heap.size + 1 + 1) M (mt.set z true) Q.length (Q.flatMap pcC) (.slice (some ⟨gq, 0, none⟩) Q.length qc) (wc.setCell ⟨w.heap.size + 1 + 1, z, none⟩ (.bool true))) := HAc.out.set z
              obtain ⟨Lc, hLc⟩ : ∃ Lc : Int, 97 + (c : Int) = Lc := ⟨_, rfl⟩
              have e7 : IntKind.i64.wrap (97 + (c : Int)) = Lc := by rw [IntKind.wrap_i64]; omega
              have e8 : IntKind.u8.wrap Lc = Lc := by rw [IntKind.wrap_u8]; omega
              have HCN : Hid ((Q ++ [(⟨dd A B n.p c, i, c, n.w ++ [c]⟩ : Nod (Nat × Nat))]).flatMap pcC = Q.flatMap pcC ++ [.int .i64 (D1 : Int), .int .i64 (D2 : Int), .int .i64 (i : Int), .int .u8 Lc]) := by
                show _ = _
                rw [List.flatMap_append]
                congr 1
                simp [pcC, upI, lb, dd, HDE.out.1, HDE.out.2, hLc]
              have hVs : V.heap.size ≤ wc.heap.size := HAc.out.below.size
              have KL : Hid (∀ O, ((wc.setCell ⟨w.heap.size + 1 + 1, z, none⟩ (.bool true)).alloc O).ownsRow V.heap.size 93 4 (.slice (some ⟨gq, 0, none⟩) Q.length qc) Q.length (Q.flatMap pcC)) := fun O => HAs.out.lst.alloc O
              have KC : Hid (∀ (j : Nat) (u : Value), [Value.int .i64 (D1 : Int), .int .i64 (D2 : Int), .int .i64 (i : Int), .int .u8 Lc][j]? = some u → ((wc.setCell ⟨w.heap.size + 1 + 1, z, none⟩ (.bool true)).alloc (.cells #[.int .i64 (D1 : Int), .int .i64 (D2 : Int), .int .i64 (i : Int), .int .u8 Lc] 93)).cell? ((⟨wc.heap.size, 0, none⟩ : Addr).add j) = some u) := fun j u hj => by
                have := cell_news (wc.setCell ⟨w.heap.size + 1 + 1, z, none⟩ (.bool true)) #[.int .i64 (D1 : Int), .int .i64 (D2 : Int), .int .i64 (i : Int), .int .u8 Lc] 93 j u hj
                simpa [World.setCell] using this
              clear hbe hml hLc
              go_wp2_with (at_builtin; refine wpList_append_own _ rfl _ _ 94 rfl V.heap.size 93 i1 (.agg #[.int .i64 0, .int .i64 0, .int .i64 0, .int .u8 0]) 4 32 Try.underlying94 hj hq0 hq1 hq2 rfl (by decide) _ _ _ rfl (KL.out _) ⟨wc.heap.size, 0, none⟩ 1 1 [.int .i64 (D1 : Int), .int .i64 (D2 : Int), .int .i64 (i : Int), .int .u8 Lc] rfl rfl KC.out (by intro z hz; simp at hz; rcases hz with rfl | rfl | rfl | rfl <;> rfl) (by unfold maxLen; omega) (by omega) (by simp [World.setCell]; omega) ?_; intro v6 w6 ho6 hg6 _; have hM6 := HAs.out.app hg6 ho6; obtain ⟨a6, d6, rfl⟩ := own_shape ho6; have HM6 : Hid _ := hM6; clear hM6 ho6 hg6)
              go_roundw
              case rel =>
                refine ⟨c + 1, Q ++ [⟨dd A B n.p c, i, c, n.w ++ [c]⟩], mt.set z true, by go_num, by omega, ?_, ?_, HPN.out, fun j m hj hjm => ?_⟩
                · rw [List.getElem?_append_left hlt]; exact HN.out
                · rw [HCN.out, List.length_append]; exact HM6.out
                · rw [List.getElem?_append_left (by omega)] at hjm; exact HF.out j m hj hjm
              case measure => simp [intOf]; omega
          · have hcI : ¬ (c : Int) < A.k := by have := HKK.out.1; omega
            have hcE : c = K := by omega
            have HPN : Hid (DP A B K (sx A B) (s, t) Q (i + 1) 0 mt) := by
              have := HP.out
              rw [hcE] at this
              exact this.next
            have HFN : Hid (∀ (j : Nat) (m : Nod (Nat × Nat)), j < i + 1 → Q[j]? = some m → sx A B m.p = false) := fun j m hj hjm => by
              by_cases q : j < i
              · exact hf j m q hjm
              · have : j = i := by omega
                rw [this, hn, Option.some.injEq] at hjm
                rw [← hjm]; exact HSF.out
            clear hA hP hf hn hcE
            go_wp2_with fail
            go_roundw
            case rel => exact ⟨i + 1, Q, mt, by go_num, hlt, HA.out, HPN.out, HFN.out⟩
            case measure => simp [intOf]; omega
    · have hiI : ¬ (i : Int) < Q.length := by omega
      have HO : Hid (apB A B s t = none) := by
        show _ = _
        unfold apB
        rw [HKK.out.2.2.2]
        refine lsh_none (HP.out.qi.none (by omega) (fun m hm => ?_))
        obtain ⟨j, hj⟩ := List.getElem?_of_mem hm
        exact HF.out j m (by have := (List.getElem?_eq_some_iff.1 hj).1; omega) hj
      have HB : Hid (Below w.heap.size w wr) := go_on HBV.out hA.below
      clear hA hP hf
      go_wp2_with fail
      go_ret2
      exact ⟨by rw [HO.out]; rfl, HB.out⟩
end Go.Proofs.Ythjenemmhlljfaa
