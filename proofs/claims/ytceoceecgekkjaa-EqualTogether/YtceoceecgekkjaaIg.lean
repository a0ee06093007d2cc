/- equal: least's closure meet, for any function that tells which pairs are fresh. -/
import Derived.Test.YtceoceecgekkjaaIe
import Derived.Test.YtceoceecgekkjaaIf
import Derived.Laws.EntriesVeiled
import Derived.Deep.DeepAppendRoom
import Derived.Maps.AppendAt
namespace Go.Proofs.Ytceoceecgekkjaa
open Go Go.RowKit Go.Lib
set_option linter.unusedVariables false

theorem Try.info_meetE : (Try.prog.info? 80).map (fun i => (i.zero, i.size, i.bytes)) = some (some (.agg #[.int .u16 0, .int .u16 0, .int .u32 0]), 3, 8) := by kernel_rfl
/-- append to a row of one's own: in its place, or in a new one, and then all stays. -/
theorem run_append_keep {P : Program} (w : World) (base : Nat) (t ty e : TypeId) (i : TypeInfo) (z : Value) (size bytes : Nat) (ht : P.underlying t = some (.slice e)) (hi : P.info? e = some i) (hz : i.zero = some z) (hsize : i.size = size) (hby : i.bytes = bytes) (hzs : z.cells.size = size) (hsz : 0 < size)
    (v : Value) (n : Nat) (xs : List Value) (hown : w.ownsRow base e size v n xs) (a : Addr) (m c : Nat) (news : List Value) (hl : news.length = m * size) (hnews : ∀ j u, news[j]? = some u → w.cell? (a.add j) = some u) (h1 : ∀ u ∈ news, u.oneCell' = true) (h63 : n + m ≤ maxLen) (hbytes : (n + m) * bytes ≤ 140737488355328) (hbase : base ≤ w.heap.size) :
    ∃ v' w', (Builtin.append_ #[t, t] ty #[v, .slice (some a) m c]).run P w = .ok v' w' ∧ w'.ownsRow base e size v' (n + m) (xs ++ news) ∧ w.grownBy w' v.ownBlock ∧ (v'.ownBlock = v.ownBlock ∨ (v'.ownBlock = some w.heap.size ∧ w.grownBy w' none)) := by
  obtain ⟨v', w', hr, h2, h3, h4, h5⟩ := run_append_own_at (P := P) w base t ty e i z size bytes ht hi hz hsize hby hzs hsz v n xs hown a m c news hl hnews h1 h63 hbytes hbase
  refine ⟨v', w', hr, h2, h3, ?_⟩
  rcases h5 with h5 | h5
  · exact .inl h5
  · rcases hown.2 with ⟨rfl, _⟩ | ⟨g, cap, cur, rfl, hbg, hg, hnc, hcm, hcs, htake⟩
    · exact .inr ⟨h5, h3⟩
    · by_cases hroom : n + m ≤ cap
      · obtain ⟨w2, hr2, _, _⟩ := run_append_own_spare (P := P) w base t ty e i size ht hi hsize g n cap xs hown a m c news hl hnews h1 hroom
        rw [hr] at hr2
        injection hr2 with e1 e2
        rw [e1] at h5
        simp [Value.ownBlock] at h5
        have := (Array.getElem?_eq_some_iff.1 hg).1
        omega
      · subst hsize
        subst hby
        have hr2 := run_append_grow (P := P) w t ty e i z ht hi hz ⟨g, 0, none⟩ n cap xs hown.1 (hown.cells (g := g) rfl) a m c news hl hnews (by omega) (by unfold maxLen at h63; omega) (growslice_fits (by omega) hbytes)
        rw [hr] at hr2
        injection hr2 with e1 e2
        subst e2
        exact .inr ⟨h5, ⟨rfl, rfl, rfl, by simp, fun k hk _ => (below_new w.drew _).block k hk⟩⟩
theorem wpList_append_keep {P : Program} (w : World) {ops : Array Oper} {rest : List Oper} {o : Oper} {a : Act} {Q : Exit → Act → World → Prop} (hgd : o.guard = none) (s x : Operand) (t : TypeId) (ho : o.op = .call { callee := .builtin .append, args := #[s, x], argTypes := #[t, t] })
    (base : Nat) (e : TypeId) (i : TypeInfo) (z : Value) (size bytes : Nat) (ht : P.underlying t = some (.slice e)) (hi : P.info? e = some i) (hz : i.zero = some z) (hsize : i.size = size) (hby : i.bytes = bytes) (hzs : z.cells.size = size) (hsz : 0 < size)
    (v : Value) (n : Nat) (xs : List Value) (hs : a.eval s = v) (hown : w.ownsRow base e size v n xs) (ad : Addr) (m c : Nat) (news : List Value) (hx : a.eval x = .slice (some ad) m c) (hl : news.length = m * size) (hnews : ∀ j u, news[j]? = some u → w.cell? (ad.add j) = some u) (h1 : ∀ u ∈ news, u.oneCell' = true)
    (h63 : n + m ≤ maxLen) (hbytes : (n + m) * bytes ≤ 140737488355328) (hbase : base ≤ w.heap.size)
    (h : ∀ v' w', w'.ownsRow base e size v' (n + m) (xs ++ news) → w.grownBy w' v.ownBlock → (v'.ownBlock = v.ownBlock ∨ (v'.ownBlock = some w.heap.size ∧ w.grownBy w' none)) → wpList P ops Q rest (a.put o.dst v') w') : wpList P ops Q (o :: rest) a w := by
  refine wpList_plain hgd fun K hK => ?_
  obtain ⟨v', w', hr, h2, h3, h5⟩ := run_append_keep (P := P) w base t o.type e i z size bytes ht hi hz hsize hby hzs hsz v n xs hown ad m c news hl hnews h1 h63 hbytes hbase
  unfold Oper.wp execOp
  simp only [ho, resolve, invoke, builtin, Sem.run_bind, Sem.run_pure, Result.andThen_ok, List.map_toArray, List.map_cons, List.map_nil, hs, hx, hr]
  exact hK _ _ (h v' w' h2 h3 h5)
/-- What a function that tells which pairs are fresh keeps to. -/
structure Frs (fn : Nat) (c1 c2 : Value) (n m : Nat) (dec : List (Nat × Nat) → Nat × Nat → Bool) (F : List (Nat × Nat) → (Nat → Prop) → World → Prop) : Prop where
  keep : ∀ P O w w', F P O w → (∀ b, O b → w'.heap[b]? = w.heap[b]?) → F P O w'
  lt : ∀ P O w b, F P O w → O b → b < w.heap.size
  call : ∀ P O w x y, F P O w → x < n → y < m → Calls Try.prog fn #[peV x y, c1, c2] w fun e w' => e = .returned (.bool (dec P (x, y))) ∧ ∃ O', F (if dec P (x, y) then P ++ [(x, y)] else P) O' w' ∧ FK O O' w w'
/-- The queue, and what is kept for least: the blocks E as they lie in V. -/
structure LM (F : List (Nat × Nat) → (Nat → Prop) → World → Prop) (w V : World) (B0 : Nat) (E : Nat → Prop) (gq : Nat) (rc : List Value) (P : List (Nat × Nat)) (n : Nat) (qc : List Value) (vq : Value) (wr : World) : Prop where
  fr : ∃ O, F P O wr ∧ ∀ b, O b → B0 ≤ b ∧ ¬ E b ∧ b ≠ w.heap.size + 4 ∧ vq.ownBlock ≠ some b ∧ (rc ≠ [] → b ≠ gq)
  gl : rc ≠ [] → gq < wr.heap.size ∧ gq ≠ w.heap.size + 4
  hold : ∀ (o : Nat) (v : Value), rc[o]? = some v → wr.cell? ⟨gq, o, none⟩ = some v
  pre : vq.ownBlock = some gq → ∃ r, qc = rc ++ r
  q : wr.heap[w.heap.size + 4]? = some (.cells #[vq] 74 (0, 0))
  que : wr.ownsRow w.heap.size 80 3 vq n qc
  qe : ∀ b, vq.ownBlock = some b → ¬ E b
  ne : ¬ E (w.heap.size + 4)
  el : ∀ b, E b → b < V.heap.size
  res : ∀ b, E b → wr.heap[b]? = V.heap[b]?
  sz : V.heap.size ≤ wr.heap.size
  below : Below B0 w wr
theorem LM.call {fn : Nat} {c1 c2 : Value} {nn mm : Nat} {dec : List (Nat × Nat) → Nat × Nat → Bool} {F : List (Nat × Nat) → (Nat → Prop) → World → Prop} {w V : World} {B0 : Nat} {E : Nat → Prop} {gq : Nat} {rc : List Value} {P : List (Nat × Nat)} {n : Nat} {qc : List Value} {vq : Value} {wr w2 : World} (H : Frs fn c1 c2 nn mm dec F) (hB : B0 ≤ w.heap.size) (h : LM F w V B0 E gq rc P n qc vq wr) (hb : Below wr.heap.size wr w2) : LM F w V B0 E gq rc P n qc vq w2 := by
  obtain ⟨O, hF, hO⟩ := h.fr
  have hs := h.sz
  refine ⟨⟨O, H.keep P O wr w2 hF (fun b q => hb.block b (H.lt P O wr b hF q)), hO⟩, fun q => ⟨Nat.lt_of_lt_of_le (h.gl q).1 hb.size, (h.gl q).2⟩, fun o v hv => (below_cell hb (h.gl (fun e => by rw [e] at hv; simp at hv)).1).trans (h.hold o v hv), h.pre, (hb.block _ (Array.getElem?_eq_some_iff.1 h.q).1).trans h.q, own_below h.que hb, h.qe, h.ne, h.el, fun b q => (hb.block b (by have := h.el b q; omega)).trans (h.res b q), by have := hb.size; omega, h.below.trans (hb.mono (Nat.le_trans hB h.below.size))⟩
theorem LM.fresh {F : List (Nat × Nat) → (Nat → Prop) → World → Prop} {w V : World} {B0 : Nat} {E : Nat → Prop} {gq : Nat} {rc : List Value} {P : List (Nat × Nat)} {n : Nat} {qc : List Value} {vq : Value} {wr w2 : World} {P' : List (Nat × Nat)} (h : LM F w V B0 E gq rc P n qc vq wr) {O O' : Nat → Prop} (hO : ∀ b, O b → B0 ≤ b ∧ ¬ E b ∧ b ≠ w.heap.size + 4 ∧ vq.ownBlock ≠ some b ∧ (rc ≠ [] → b ≠ gq)) (hF : F P' O' w2) (hk : FK O O' wr w2) (hB : B0 ≤ wr.heap.size) : LM F w V B0 E gq rc P' n qc vq w2 := by
  have hs := h.sz
  have hql := (Array.getElem?_eq_some_iff.1 h.q).1
  refine ⟨⟨O', hF, fun b q => ?_⟩, fun q => ⟨Nat.lt_of_lt_of_le (h.gl q).1 hk.size, (h.gl q).2⟩, fun o v hv => (World.cell?_of_block (hk.keep gq (h.gl (fun e => by rw [e] at hv; simp at hv)).1 (fun z => (hO gq z).2.2.2.2 (fun e => by rw [e] at hv; simp at hv) rfl))).trans (h.hold o v hv), h.pre, (hk.keep _ hql (fun z => (hO _ z).2.2.1 rfl)).trans h.q, own_keep h.que (fun b cur q _ => hk.keep b (h.que.lt b q).2 (fun z => (hO b z).2.2.2.1 q)), h.qe, h.ne, h.el, fun b q => (hk.keep b (by have := h.el b q; omega) (fun z => (hO b z).2.1 q)).trans (h.res b q), by have := hk.size; omega, ?_⟩
  · rcases hk.own b q with z | z
    · exact hO b z
    · refine ⟨by omega, fun e => by have := h.el b e; omega, by omega, fun e => by have := (h.que.lt b e).2; omega, fun e => by have := (h.gl e).1; omega⟩
  · have hb := h.below
    exact ⟨hk.os.trans hb.os, hk.tape.trans hb.tape, hk.output.trans hb.output, Nat.le_trans hb.size hk.size, fun b q => (hk.keep b (by omega) (fun z => by have := (hO b z).1; omega)).trans (hb.block b q)⟩
theorem LM.met {fn : Nat} {c1 c2 : Value} {nn mm : Nat} {dec : List (Nat × Nat) → Nat × Nat → Bool} {F : List (Nat × Nat) → (Nat → Prop) → World → Prop} {w V : World} {B0 : Nat} {E : Nat → Prop} {gq : Nat} {rc : List Value} {P : List (Nat × Nat)} {n : Nat} {qc : List Value} {vq : Value} {wr w2 : World} {vq' : Value} {new : List Value} {o : Obj} (H : Frs fn c1 c2 nn mm dec F) (h : LM F w V B0 E gq rc P n qc vq wr) (hB : B0 ≤ w.heap.size) (hg : (wr.alloc o).grownBy w2 vq.ownBlock) (ho : w2.ownsRow w.heap.size 80 3 vq' (n + 1) (qc ++ new)) (hl : vq'.ownBlock = vq.ownBlock ∨ (vq'.ownBlock = some (wr.alloc o).heap.size ∧ (wr.alloc o).grownBy w2 none)) :
    w2.heap[w.heap.size + 4]? = some (.cells #[vq] 74 (0, 0)) ∧ LM F w V B0 E gq rc P (n + 1) (qc ++ new) vq' (w2.setCell ⟨w.heap.size + 4, 0, none⟩ vq') := by
  obtain ⟨O, hF, hO⟩ := h.fr
  have hs := h.sz
  have hql := (Array.getElem?_eq_some_iff.1 h.q).1
  have k' : ∀ b, b < wr.heap.size → vq.ownBlock ≠ some b → w2.heap[b]? = wr.heap[b]? := fun b hlt hne => by
    rw [hg.block b (by simp; omega) (fun e => hne e.symm)]
    exact (below_new wr o).block b hlt
  have hq : w2.heap[w.heap.size + 4]? = some (.cells #[vq] 74 (0, 0)) := (k' _ hql (fun e => by
    obtain ⟨_, cur, hc⟩ := own_blk h.que e
    rw [h.q] at hc
    injection hc with hc; injection hc with _ hc _; cases hc)).trans h.q
  refine ⟨hq, ⟨O, H.keep P O wr _ hF (fun b q => by rw [heap_set_other (hO b q).2.2.1]; exact k' b (H.lt P O wr b hF q) (hO b q).2.2.2.1), fun b q => ⟨(hO b q).1, (hO b q).2.1, (hO b q).2.2.1, fun e => ?_, (hO b q).2.2.2.2⟩⟩, fun q => ⟨?_, (h.gl q).2⟩, fun o' v hv => ?_, fun e => ?_, heap_set hq, ?_, fun b q => ?_, h.ne, h.el, fun b q => ?_, ?_, ?_⟩
  · rcases hl with z | ⟨z, _⟩
    · exact (hO b q).2.2.2.1 (z ▸ e)
    · rw [z] at e
      have := H.lt P O wr b hF q
      simp at e
      omega
  · have h1 := (h.gl q).1
    have h2 := hg.size
    simp [World.setCell] at h2 ⊢
    omega
  · have hr : rc ≠ [] := fun e => by rw [e] at hv; simp at hv
    have hgl := h.gl hr
    rw [World.cell?_of_block (heap_set_other (b := w.heap.size + 4) (c := gq) hgl.2)]
    by_cases e : vq.ownBlock = some gq
    · rcases hl with z | ⟨z, hgn⟩
      · obtain ⟨r, hr2⟩ := h.pre e
        obtain ⟨g', cap', rfl⟩ : ∃ g' cap', vq' = .slice (some ⟨g', 0, none⟩) (n + 1) cap' := by
          rcases ho.2 with ⟨_, h0⟩ | ⟨g', cap', cur, hv', _⟩
          · omega
          · exact ⟨g', cap', hv'⟩
        have eg : g' = gq := by have := z.trans e; simpa [Value.ownBlock] using this
        subst eg
        have hlt := (List.getElem?_eq_some_iff.1 hv).1
        have hl2 := ho.1
        rw [hr2] at hl2
        simp only [List.length_append] at hl2
        rw [ho.cellAt o' (by omega), hr2, List.append_assoc, List.getElem?_append_left hlt]
        exact hv
      · rw [World.cell?_of_block (hgn.block gq (by simp; omega) (by simp))]
        exact (below_cell (below_new wr o) hgl.1).trans (h.hold o' v hv)
    · rw [World.cell?_of_block (k' gq hgl.1 e)]
      exact h.hold o' v hv
  · rcases hl with z | ⟨z, _⟩
    · obtain ⟨r, hr⟩ := h.pre (z ▸ e)
      exact ⟨r ++ new, by rw [hr, List.append_assoc]⟩
    · by_cases hr : rc = []
      · exact ⟨qc ++ new, by rw [hr]; rfl⟩
      · have := (h.gl hr).1
        rw [z] at e
        simp at e
        omega
  · exact own_keep ho (fun b cur _ hc => heap_set_other (fun e => by rw [e, hq] at hc; injection hc with hc; injection hc with _ hc _; cases hc))
  · rcases hl with z | ⟨z, _⟩
    · exact h.qe b (z ▸ q)
    · rw [z] at q
      simp at q
      exact fun e => by have := h.el b e; omega
  · rw [heap_set_other (fun e => h.ne (by rw [← e]; exact q)), k' b (by have := h.el b q; omega) (fun e => h.qe b e q)]
    exact h.res b q
  · have := hg.size
    simp [World.setCell] at this ⊢
    omega
  · refine ((h.below.alloc (by have := h.below.size; omega) o).grown hg (by have := h.below.size; simp; omega) (fun b hb => ?_)).setCell (p := ⟨w.heap.size + 4, 0, none⟩) (by show B0 ≤ w.heap.size + 4; omega) _
    have := (h.que.lt b hb).1
    omega
/-- What meet leaves. -/
def MeR (F : List (Nat × Nat) → (Nat → Prop) → World → Prop) (dec : List (Nat × Nat) → Nat × Nat → Bool) (w V : World) (B0 : Nat) (E : Nat → Prop) (gq : Nat) (rc : List Value) (P : List (Nat × Nat)) (n : Nat) (qc : List Value) (x y : Nat) (mt : List Value) (w' : World) : Prop :=
  (dec P (x, y) = true ∧ ∃ vq', LM F w V B0 E gq rc (P ++ [(x, y)]) (n + 1) (qc ++ mt) vq' w') ∨ (dec P (x, y) = false ∧ ∃ vq', LM F w V B0 E gq rc P n qc vq' w')
def MeQ (F : List (Nat × Nat) → (Nat → Prop) → World → Prop) (dec : List (Nat × Nat) → Nat × Nat → Bool) (w V : World) (B0 : Nat) (E : Nat → Prop) (gq : Nat) (rc : List Value) (P : List (Nat × Nat)) (n : Nat) (qc : List Value) (x y : Nat) (mt : List Value) (g : Bool) (e : Ending) (w' : World) : Prop := e = .returned (.bool (dec P (x, y) && g)) ∧ MeR F dec w V B0 E gq rc P n qc x y mt w'

set_option maxHeartbeats 8000000 in
set_option maxRecDepth 100000 in
theorem emeet_any (F : List (Nat × Nat) → (Nat → Prop) → World → Prop) (dec : List (Nat × Nat) → Nat × Nat → Bool) (fn sn : Nat) (c1 c2 : Value) (g : Bool → Bool → Bool) (A B : Aut) (H : Frs fn c1 c2 A.ac.length B.ac.length dec F) (w V : World) (B0 : Nat) (hB : B0 ≤ w.heap.size) (E : Nat → Prop) (gq : Nat) (rc : List Value) (P : List (Nat × Nat)) (n : Nat) (hn : n ≤ 16777216) (qc : List Value) (vq : Value) (wr : World) (h : LM F w V B0 E gq rc P n qc vq wr)
    (eF : ∀ args w, (callFunc fn args).run Try.prog w = .ok (.enter fn args) w) (eS : ∀ args w, (callFunc sn args).run Try.prog w = .ok (.enter sn args) w)
    (hS : ∀ p q w, Calls Try.prog sn #[.bool p, .bool q] w fun e w' => e = .returned (.bool (g p q)) ∧ w' = w)
    (an bn : Option Addr) (cn dn ca da ga oa gb ob : Nat) (hE : ∀ b, w.heap.size ≤ b → b < w.heap.size + 4 → E b)
    (v1 : V.heap[w.heap.size]? = some (.cells #[.int .i64 A.k, .slice an A.nx.length cn, .slice (some ⟨ga, oa, none⟩) A.ac.length ca] 25 (0, 0))) (v2 : V.heap[w.heap.size + 1]? = some (.cells #[.int .i64 A.k, .slice bn B.nx.length dn, .slice (some ⟨gb, ob, none⟩) B.ac.length da] 25 (0, 0))) (v3 : V.heap[w.heap.size + 2]? = some (.cells #[(.func (.func fn) #[] #[c1, c2])] 56 (0, 0))) (v4 : V.heap[w.heap.size + 3]? = some (.cells #[(.func (.func sn) #[] #[])] 58 (0, 0)))
    (hA : ∀ z, Below B0 w z → ∀ i, i < A.ac.length → z.cell? ⟨ga, oa + i, none⟩ = some (.bool (A.ac.getD i false))) (hBB : ∀ z, Below B0 w z → ∀ i, i < B.ac.length → z.cell? ⟨gb, ob + i, none⟩ = some (.bool (B.ac.getD i false)))
    (x y by' : Nat) (hx : x < A.ac.length) (hy : y < B.ac.length) (hx4 : A.ac.length ≤ 4096) (hy4 : B.ac.length ≤ 4096) (hby : by' ≤ 4294967295) :
    Calls Try.prog 53 #[peV x y, .int .i64 by', .pointer (some ⟨w.heap.size + 2, 0, none⟩), .pointer (some ⟨w.heap.size + 4, 0, none⟩), .pointer (some ⟨w.heap.size + 3, 0, none⟩), .pointer (some ⟨w.heap.size, 0, none⟩), .pointer (some ⟨w.heap.size + 1, 0, none⟩)] wr (MeQ F dec w V B0 E gq rc P n qc x y [.int .u16 (x : Int), .int .u16 (y : Int), .int .u32 (by' : Int)] (g (A.ac.getD x false) (B.ac.getD y false))) := by
  obtain ⟨i0, hi, hz0, hz1, hz2⟩ := info_parts Try.info_meetE
  have hwr4 : w.heap.size + 4 < wr.heap.size := (Array.getElem?_eq_some_iff.1 h.q).1
  obtain ⟨pb, hpb⟩ : ∃ pb, wr.heap.size = pb := ⟨_, rfl⟩
  obtain ⟨w1, hw1⟩ : ∃ w1, w1 = wr.alloc (.cells #[.int .u16 (x : Int), .int .u16 (y : Int)] 77) := ⟨_, rfl⟩
  have hb1 : Below wr.heap.size wr w1 := by rw [hw1]; exact below_new _ _
  have h1 := LM.call H hB h hb1
  obtain ⟨O, hF0, hO⟩ := h.fr
  have hF : F P O w1 := H.keep P O wr w1 hF0 (fun b q => hb1.block b (H.lt P O wr b hF0 q))
  have HPO : Hid (¬ O pb) := fun q => by have := H.lt P O wr pb hF0 q; omega
  have HW1 : Hid (w1 = wr.alloc (.cells #[.int .u16 (x : Int), .int .u16 (y : Int)] 77)) := hw1
  have HPB : Hid (w1.heap[pb]? = some (.cells #[.int .u16 (x : Int), .int .u16 (y : Int)] 77 (0, 0))) := by
    show w1.heap[pb]? = _
    rw [hw1, ← hpb]; exact heap_alloc_last _ _
  have HV : Hid (∀ z, LM F w V B0 E gq rc (P ++ [(x, y)]) n qc vq z ∨ (∃ vq', LM F w V B0 E gq rc (P ++ [(x, y)]) (n + 1) (qc ++ [.int .u16 (x : Int), .int .u16 (y : Int), .int .u32 (by' : Int)]) vq' z) → (∀ o, z.cell? ⟨w.heap.size, o, none⟩ = (#[.int .i64 A.k, .slice an A.nx.length cn, .slice (some ⟨ga, oa, none⟩) A.ac.length ca] : Array Value)[o]?) ∧ (∀ o, z.cell? ⟨w.heap.size + 1, o, none⟩ = (#[.int .i64 A.k, .slice bn B.nx.length dn, .slice (some ⟨gb, ob, none⟩) B.ac.length da] : Array Value)[o]?) ∧ z.cell? ⟨w.heap.size + 3, 0, none⟩ = some (.func (.func sn) #[] #[])) := fun z hz => by
    have hr : ∀ b, E b → z.heap[b]? = V.heap[b]? := by
      rcases hz with q | ⟨vq', q⟩
      · exact q.res
      · exact q.res
    exact ⟨fun o => (World.cell?_of_block (hr _ (hE w.heap.size (by omega) (by omega)))).trans (cell_of v1), fun o => (World.cell?_of_block (hr _ (hE (w.heap.size + 1) (by omega) (by omega)))).trans (cell_of v2), (World.cell?_of_block (hr _ (hE (w.heap.size + 3) (by omega) (by omega)))).trans (cell_of v4)⟩
  have HL1 : Hid (LM F w V B0 E gq rc P n qc vq w1) := h1
  have cf : (wr.alloc (.cells #[.int .u16 (x : Int), .int .u16 (y : Int)] 77)).cell? ⟨w.heap.size + 2, 0, none⟩ = some (.func (.func fn) #[] #[c1, c2]) := by rw [← hw1]; exact (World.cell?_of_block (h1.res _ (hE (w.heap.size + 2) (by omega) (by omega)))).trans (cell_of v3)
  have HFO : Hid (∀ b, O b → B0 ≤ b ∧ ¬ E b ∧ b ≠ w.heap.size + 4 ∧ vq.ownBlock ≠ some b ∧ (rc ≠ [] → b ≠ gq)) := hO
  have HCF : Hid (Calls Try.prog fn #[peV x y, c1, c2] w1 fun e w' => e = .returned (.bool (dec P (x, y))) ∧ ∃ O', F (if dec P (x, y) then P ++ [(x, y)] else P) O' w' ∧ FK O O' w1 w') := H.call P O w1 x y hF hx hy
  have hs1 := hb1.size
  have hB1 : B0 ≤ w1.heap.size := by have := h.below.size; omega
  have HH : Hid (Frs fn c1 c2 A.ac.length B.ac.length dec F) := H
  have HA : Hid (∀ z, Below B0 w z → ∀ i, i < A.ac.length → z.cell? ⟨ga, oa + i, none⟩ = some (.bool (A.ac.getD i false))) := hA
  have HBB : Hid (∀ z, Below B0 w z → ∀ i, i < B.ac.length → z.cell? ⟨gb, ob + i, none⟩ = some (.bool (B.ac.getD i false))) := hBB
  have HSS : Hid (∀ p q w, Calls Try.prog sn #[.bool p, .bool q] w fun e w' => e = .returned (.bool (g p q)) ∧ w' = w) := hS
  have hpl : pb < w1.heap.size := (Array.getElem?_eq_some_iff.1 HPB.out).1
  have HPQ : Hid (pb ≠ w.heap.size + 4 ∧ vq.ownBlock ≠ some pb) := ⟨by omega, fun e => by have := (h.que.lt pb e).2; omega⟩
  obtain ⟨p, hp⟩ : ∃ p, A.ac.getD x false = p := ⟨_, rfl⟩
  obtain ⟨q, hq⟩ : ∃ q, B.ac.getD y false = q := ⟨_, rfl⟩
  have HPP : Hid (A.ac.getD x false = p ∧ B.ac.getD y false = q) := ⟨hp, hq⟩
  rw [hp, hq]
  clear h h1 hF0 hF hO H hw1 hb1 v1 v2 v3 v4 hE hA hBB hS hp hq
  go_enter Try.func53, Try.ntmps53
  go_wp2_with fail
  rw [← HW1.out]
  refine HCF.out.mono ?_
  rintro e w2 ⟨rfl, O', hF2, hk2⟩
  have hpb2 : w2.heap[pb]? = some (.cells #[.int .u16 (x : Int), .int .u16 (y : Int)] 77 (0, 0)) := (hk2.keep pb hpl HPO.out).trans HPB.out
  cases hd : dec P (x, y) with
  | false =>
    rw [hd] at hF2
    have HM : Hid (LM F w V B0 E gq rc P n qc vq w2) := HL1.out.fresh HFO.out hF2 hk2 hB1
    have HD : Hid (dec P (x, y) = false) := hd
    clear hF2 hk2 hpb2 hd
    go_wp2_with fail
    go_ret
    exact ⟨by rw [HD.out]; rfl, .inr ⟨HD.out, vq, HM.out⟩⟩
  | true =>
    rw [hd] at hF2
    have hM := HL1.out.fresh HFO.out hF2 hk2 hB1
    have HM : Hid (LM F w V B0 E gq rc (P ++ [(x, y)]) n qc vq w2) := hM
    have HD : Hid (dec P (x, y) = true) := hd
    have HP2 : Hid (w2.heap[pb]? = some (.cells #[.int .u16 (x : Int), .int .u16 (y : Int)] 77 (0, 0))) := hpb2
    obtain ⟨va, vc, hvq⟩ := own_shape hM.que
    subst hvq
    have cq : w2.cell? ⟨w.heap.size + 4, 0, none⟩ = some (.slice va n vc) := cell_of hM.q
    have cp : ∀ o, w2.cell? ⟨pb, o, none⟩ = (#[.int .u16 (x : Int), .int .u16 (y : Int)] : Array Value)[o]? := fun o => cell_of hpb2
    have hwb : IntKind.u32.wrap (by' : Int) = (by' : Int) := by rw [IntKind.wrap_u32]; omega
    have hV2 : w.heap.size ≤ w2.heap.size := hM.below.size
    clear hF2 hk2 hpb2 hd hM
    go_wp2_with (at_builtin; refine wpList_append_keep _ rfl _ _ 74 rfl w.heap.size 80 i0 (.agg #[.int .u16 0, .int .u16 0, .int .u32 0]) 3 8 Try.underlying74 hi hz0 hz1 hz2 rfl (by decide) _ _ _ rfl (HM.out.que.alloc _) ⟨w2.heap.size, 0, none⟩ 1 1 [.int .u16 (x : Int), .int .u16 (y : Int), .int .u32 (by' : Int)] rfl rfl (cell_news w2 #[.int .u16 (x : Int), .int .u16 (y : Int), .int .u32 (by' : Int)] 80) (by intro z hz; simp at hz; rcases hz with rfl | rfl | rfl <;> rfl) (by unfold maxLen; omega) (by omega) (by simp; omega) ?_; intro v6 w6 ho6 hg6 hl6; have hM6 := HM.out.met HH.out hB hg6 ho6 hl6; have c6 : w6.cell? ⟨w.heap.size + 4, 0, none⟩ = some (.slice va n vc) := cell_of hM6.1; have f6 : w6.frozen? ⟨w.heap.size + 4, 0, none⟩ = false := froz_of hM6.1; obtain ⟨a6, d6, rfl⟩ := own_shape ho6; have HM6 : Hid (LM F w V B0 E gq rc (P ++ [(x, y)]) (n + 1) (qc ++ [.int .u16 (x : Int), .int .u16 (y : Int), .int .u32 (by' : Int)]) (.slice a6 (n + 1) d6) (w6.setCell ⟨w.heap.size + 4, 0, none⟩ (.slice a6 (n + 1) d6))) := hM6.2; have HP6 : Hid ((w6.setCell ⟨w.heap.size + 4, 0, none⟩ (.slice a6 (n + 1) d6)).heap[pb]? = some (.cells #[.int .u16 (x : Int), .int .u16 (y : Int)] 77 (0, 0))) := (by show (w6.setCell ⟨w.heap.size + 4, 0, none⟩ (.slice a6 (n + 1) d6)).heap[pb]? = _; rw [heap_set_other HPQ.out.1, hg6.block pb (by have := (Array.getElem?_eq_some_iff.1 HP2.out).1; simp; omega) (fun e => HPQ.out.2 e.symm)]; exact ((below_new w2 _).block pb (Array.getElem?_eq_some_iff.1 HP2.out).1).trans HP2.out); clear hM6 ho6 hg6 hl6)
    obtain ⟨w9, hw9⟩ : ∃ w9, w6.setCell ⟨w.heap.size + 4, 0, none⟩ (.slice a6 (n + 1) d6) = w9 := ⟨_, rfl⟩
    rw [hw9] at HM6 HP6 ⊢
    obtain ⟨s1, s2, s3⟩ := HV.out w9 (.inr ⟨_, HM6.out⟩)
    have s4 : ∀ o, w9.cell? ⟨pb, o, none⟩ = (#[.int .u16 (x : Int), .int .u16 (y : Int)] : Array Value)[o]? := fun o => cell_of HP6.out
    have s5 := HA.out w9 HM6.out.below x hx
    have s6 := HBB.out w9 HM6.out.below y hy
    rw [HPP.out.1] at s5
    rw [HPP.out.2] at s6
    have hxI : (x : Int) < A.ac.length := by omega
    have hyI : (y : Int) < B.ac.length := by omega
    have S0 : (∀ o, w9.drew.cell? ⟨w.heap.size, o, none⟩ = (#[.int .i64 A.k, .slice an A.nx.length cn, .slice (some ⟨ga, oa, none⟩) A.ac.length ca] : Array Value)[o]?) ∧ (∀ o, w9.drew.cell? ⟨w.heap.size + 1, o, none⟩ = (#[.int .i64 A.k, .slice bn B.nx.length dn, .slice (some ⟨gb, ob, none⟩) B.ac.length da] : Array Value)[o]?) ∧ w9.drew.cell? ⟨w.heap.size + 3, 0, none⟩ = some (.func (.func sn) #[] #[]) ∧ (∀ o, w9.drew.cell? ⟨pb, o, none⟩ = (#[.int .u16 (x : Int), .int .u16 (y : Int)] : Array Value)[o]?) ∧ w9.drew.cell? ⟨ga, oa + x, none⟩ = some (.bool p) ∧ w9.drew.cell? ⟨gb, ob + y, none⟩ = some (.bool q) ∧ Below w9.heap.size w9 w9.drew := ⟨s1, s2, s3, s4, s5, s6, (Below.refl _ _).drew⟩
    have HBD : Hid (LM F w V B0 E gq rc (P ++ [(x, y)]) (n + 1) (qc ++ [.int .u16 (x : Int), .int .u16 (y : Int), .int .u32 (by' : Int)]) (.slice a6 (n + 1) d6) w9) := HM6.out
    clear c6 f6 hw9 s1 s2 s3 s4 s5 s6 cq cp
    go_wp2_with fail
    go_region_held3 (fun z => (∀ o, z.cell? ⟨w.heap.size, o, none⟩ = (#[.int .i64 A.k, .slice an A.nx.length cn, .slice (some ⟨ga, oa, none⟩) A.ac.length ca] : Array Value)[o]?) ∧ (∀ o, z.cell? ⟨w.heap.size + 1, o, none⟩ = (#[.int .i64 A.k, .slice bn B.nx.length dn, .slice (some ⟨gb, ob, none⟩) B.ac.length da] : Array Value)[o]?) ∧ z.cell? ⟨w.heap.size + 3, 0, none⟩ = some (.func (.func sn) #[] #[]) ∧ (∀ o, z.cell? ⟨pb, o, none⟩ = (#[.int .u16 (x : Int), .int .u16 (y : Int)] : Array Value)[o]?) ∧ z.cell? ⟨ga, oa + x, none⟩ = some (.bool p) ∧ z.cell? ⟨gb, ob + y, none⟩ = some (.bool q) ∧ Below w9.heap.size w9 z) (first | exact S0 | assumption) (first
      | (refine (HSS.out _ _ _).mono ?_; rintro e y9 ⟨rfl, hy9⟩; subst hy9))
    all_goals (
      have HM9 : Hid (LM F w V B0 E gq rc (P ++ [(x, y)]) (n + 1) (qc ++ [.int .u16 (x : Int), .int .u16 (y : Int), .int .u32 (by' : Int)]) (.slice a6 (n + 1) d6) w9.drew) := LM.call HH.out hB HBD.out (Below.refl _ _).drew
      go_wp2_with fail
      go_ret
      exact ⟨by rw [HD.out]; rfl, .inl ⟨HD.out, _, HM9.out⟩⟩)
end Go.Proofs.Ytceoceecgekkjaa
