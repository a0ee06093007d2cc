/- equal: least's closure meet, for any function that tells which pairs are fresh. equal: least. equal: the two functions that tell which pairs are fresh keep to what least wants; what they cover, how many pairs they let in (pure). equal: check, Differ, Escape, Meet, Equal, Inside. equal: Equal, Inside; the law's num, live; the document's Two. equal: the law's live. equal: what Differ and the two Escapes say together (pure). -/
import Derived.Test.YtggheiblgghpkaaIna
import Derived.Laws.EntriesVeiled
import Derived.Deep.DeepAppendRoom
import Derived.Maps.AppendAt
import Derived.Test.YtggheiblgghpkaaLp
import Derived.Deep.RegionHeld3
import Derived.Test.YtggheiblgghpkaaJc
import Derived.OwnWalk
import Derived.Test.YtggheiblgghpkaaJq
import Derived.Test.YtggheiblgghpkaaLr
namespace Go.Proofs.Ytggheiblgghpkaa
open Go Go.RowKit Go.Lib
set_option linter.unusedVariables false

theorem Try.info_meetE : (Try.prog.info? 80).map (fun i => (i.zero, i.size, i.bytes)) = some (some (.agg #[.int .u16 0, .int .u16 0, .int .u32 0]), 3, 8) := by kernel_rfl
/-- append to a row of one's own: in its place, or in a new one, and then all stays. -/
theorem run_append_keep {P : Program} (w : World) (base : Nat) (t ty e : TypeId) (i : TypeInfo) (z : Value) (size bytes : Nat) (ht : P.underlying t = some (.slice e)) (hi : P.info? e = some i) (hz : i.zero = some z) (hsize : i.size = size) (hby : i.bytes = bytes) (hzs : z.cells.size = size) (hsz : 0 < size)
    (v : Value) (n : Nat) (xs : List Value) (hown : w.ownsRow base e size v n xs) (a : Addr) (m c : Nat) (news : List Value) (hl : news.length = m * size) (hnews : ∀ j u, news[j]? = some u → w.cell? (a.add j) = some u) (h1 : ∀ u ∈ news, u.oneCell' = true) (h63 : n + m ≤ maxLen) (hbytes : (n + m) * bytes ≤ 140737488355328) (hbase : base ≤ w.heap.size) :
    ∃ v' w', (Builtin.append_ #[t, t] ty #[v, .slice (some a) m c]).run P w = .ok v' w' ∧ w'.ownsRow base e size v' (n + m) (xs ++ news) ∧ w.grownBy w' v.ownBlock ∧ (v'.ownBlock = v.ownBlock ∨ (v'.ownBlock = some w.heap.size ∧ w.grownBy w' none)) := by
  obtain ⟨v', w', hr, h2, h3, h4, h5⟩ := run_append_own_at (P := P) w base t ty e i z size bytes ht hi hz hsize hby hzs hsz v n xs hown a m c news hl hnews h1 h63 hbytes hbase
  refine ⟨v', w', hr, h2, h3, ?_⟩
  rcases h5 with h5 | h5
  · exact .inl h5
  · rcases hown.2 with ⟨rfl, _⟩ | ⟨g, cap, cur, rfl, hbg, hg, hnc, hcm, hcs, htake⟩
    · exact .inr ⟨h5, h3⟩
    · by_cases hroom : n + m ≤ cap
      · obtain ⟨w2, hr2, _, _⟩ := run_append_own_spare (P := P) w base t ty e i size ht hi hsize g n cap xs hown a m c news hl hnews h1 hroom
        rw [hr] at hr2
        injection hr2 with e1 e2
        rw [e1] at h5
        simp [Value.ownBlock] at h5
        have := (Array.getElem?_eq_some_iff.1 hg).1
        omega
      · subst hsize
        subst hby
        have hr2 := run_append_grow (P := P) w t ty e i z ht hi hz ⟨g, 0, none⟩ n cap xs hown.1 (hown.cells (g := g) rfl) a m c news hl hnews (by omega) (by unfold maxLen at h63; omega) (growslice_fits (by omega) hbytes)
        rw [hr] at hr2
        injection hr2 with e1 e2
        subst e2
        exact .inr ⟨h5, ⟨rfl, rfl, rfl, by simp, fun k hk _ => (below_new w.drew _).block k hk⟩⟩
theorem wpList_append_keep {P : Program} (w : World) {ops : Array Oper} {rest : List Oper} {o : Oper} {a : Act} {Q : Exit → Act → World → Prop} (hgd : o.guard = none) (s x : Operand) (t : TypeId) (ho : o.op = .call { callee := .builtin .append, args := #[s, x], argTypes := #[t, t] })
    (base : Nat) (e : TypeId) (i : TypeInfo) (z : Value) (size bytes : Nat) (ht : P.underlying t = some (.slice e)) (hi : P.info? e = some i) (hz : i.zero = some z) (hsize : i.size = size) (hby : i.bytes = bytes) (hzs : z.cells.size = size) (hsz : 0 < size)
    (v : Value) (n : Nat) (xs : List Value) (hs : a.eval s = v) (hown : w.ownsRow base e size v n xs) (ad : Addr) (m c : Nat) (news : List Value) (hx : a.eval x = .slice (some ad) m c) (hl : news.length = m * size) (hnews : ∀ j u, news[j]? = some u → w.cell? (ad.add j) = some u) (h1 : ∀ u ∈ news, u.oneCell' = true)
    (h63 : n + m ≤ maxLen) (hbytes : (n + m) * bytes ≤ 140737488355328) (hbase : base ≤ w.heap.size)
    (h : ∀ v' w', w'.ownsRow base e size v' (n + m) (xs ++ news) → w.grownBy w' v.ownBlock → (v'.ownBlock = v.ownBlock ∨ (v'.ownBlock = some w.heap.size ∧ w.grownBy w' none)) → wpList P ops Q rest (a.put o.dst v') w') : wpList P ops Q (o :: rest) a w := by
  refine wpList_plain hgd fun K hK => ?_
  obtain ⟨v', w', hr, h2, h3, h5⟩ := run_append_keep (P := P) w base t o.type e i z size bytes ht hi hz hsize hby hzs hsz v n xs hown ad m c news hl hnews h1 h63 hbytes hbase
  unfold Oper.wp execOp
  simp only [ho, resolve, invoke, builtin, Sem.run_bind, Sem.run_pure, Result.andThen_ok, List.map_toArray, List.map_cons, List.map_nil, hs, hx, hr]
  exact hK _ _ (h v' w' h2 h3 h5)
/-- What a function that tells which pairs are fresh keeps to. -/
structure Frs (fn : Nat) (c1 c2 : Value) (n m : Nat) (dec : List (Nat × Nat) → Nat × Nat → Bool) (F : List (Nat × Nat) → (Nat → Prop) → World → Prop) : Prop where
  keep : ∀ P O w w', F P O w → (∀ b, O b → w'.heap[b]? = w.heap[b]?) → F P O w'
  lt : ∀ P O w b, F P O w → O b → b < w.heap.size
  call : ∀ P O w x y, F P O w → x < n → y < m → Calls Try.prog fn #[peV x y, c1, c2] w fun e w' => e = .returned (.bool (dec P (x, y))) ∧ ∃ O', F (if dec P (x, y) then P ++ [(x, y)] else P) O' w' ∧ FK O O' w w'
/-- The queue, and what is kept for least: the blocks E as they lie in V. -/
structure LM (F : List (Nat × Nat) → (Nat → Prop) → World → Prop) (w V : World) (B0 : Nat) (E : Nat → Prop) (gq : Nat) (rc : List Value) (P : List (Nat × Nat)) (n : Nat) (qc : List Value) (vq : Value) (wr : World) : Prop where
  fr : ∃ O, F P O wr ∧ ∀ b, O b → B0 ≤ b ∧ ¬ E b ∧ b ≠ w.heap.size + 4 ∧ vq.ownBlock ≠ some b ∧ (rc ≠ [] → b ≠ gq)
  gl : rc ≠ [] → gq < wr.heap.size ∧ gq ≠ w.heap.size + 4
  hold : ∀ (o : Nat) (v : Value), rc[o]? = some v → wr.cell? ⟨gq, o, none⟩ = some v
  pre : vq.ownBlock = some gq → ∃ r, qc = rc ++ r
  q : wr.heap[w.heap.size + 4]? = some (.cells #[vq] 74 (0, 0))
  que : wr.ownsRow w.heap.size 80 3 vq n qc
  qe : ∀ b, vq.ownBlock = some b → ¬ E b
  ne : ¬ E (w.heap.size + 4)
  el : ∀ b, E b → b < V.heap.size
  res : ∀ b, E b → wr.heap[b]? = V.heap[b]?
  sz : V.heap.size ≤ wr.heap.size
  below : Below B0 w wr
theorem LM.call {fn : Nat} {c1 c2 : Value} {nn mm : Nat} {dec : List (Nat × Nat) → Nat × Nat → Bool} {F : List (Nat × Nat) → (Nat → Prop) → World → Prop} {w V : World} {B0 : Nat} {E : Nat → Prop} {gq : Nat} {rc : List Value} {P : List (Nat × Nat)} {n : Nat} {qc : List Value} {vq : Value} {wr w2 : World} (H : Frs fn c1 c2 nn mm dec F) (hB : B0 ≤ w.heap.size) (h : LM F w V B0 E gq rc P n qc vq wr) (hb : Below wr.heap.size wr w2) : LM F w V B0 E gq rc P n qc vq w2 := by
  obtain ⟨O, hF, hO⟩ := h.fr
  have hs := h.sz
  refine ⟨⟨O, H.keep P O wr w2 hF (fun b q => hb.block b (H.lt P O wr b hF q)), hO⟩, fun q => ⟨Nat.lt_of_lt_of_le (h.gl q).1 hb.size, (h.gl q).2⟩, fun o v hv => (below_cell hb (h.gl (fun e => by rw [e] at hv; simp at hv)).1).trans (h.hold o v hv), h.pre, (hb.block _ (Array.getElem?_eq_some_iff.1 h.q).1).trans h.q, own_below h.que hb, h.qe, h.ne, h.el, fun b q => (hb.block b (by have := h.el b q; omega)).trans (h.res b q), by have := hb.size; omega, h.below.trans (hb.mono (Nat.le_trans hB h.below.size))⟩
theorem LM.fresh {F : List (Nat × Nat) → (Nat → Prop) → World → Prop} {w V : World} {B0 : Nat} {E : Nat → Prop} {gq : Nat} {rc : List Value} {P : List (Nat × Nat)} {n : Nat} {qc : List Value} {vq : Value} {wr w2 : World} {P' : List (Nat × Nat)} (h : LM F w V B0 E gq rc P n qc vq wr) {O O' : Nat → Prop} (hO : ∀ b, O b → B0 ≤ b ∧ ¬ E b ∧ b ≠ w.heap.size + 4 ∧ vq.ownBlock ≠ some b ∧ (rc ≠ [] → b ≠ gq)) (hF : F P' O' w2) (hk : FK O O' wr w2) (hB : B0 ≤ wr.heap.size) : LM F w V B0 E gq rc P' n qc vq w2 := by
  have hs := h.sz
  have hql := (Array.getElem?_eq_some_iff.1 h.q).1
  refine ⟨⟨O', hF, fun b q => ?_⟩, fun q => ⟨Nat.lt_of_lt_of_le (h.gl q).1 hk.size, (h.gl q).2⟩, fun o v hv => (World.cell?_of_block (hk.keep gq (h.gl (fun e => by rw [e] at hv; simp at hv)).1 (fun z => (hO gq z).2.2.2.2 (fun e => by rw [e] at hv; simp at hv) rfl))).trans (h.hold o v hv), h.pre, (hk.keep _ hql (fun z => (hO _ z).2.2.1 rfl)).trans h.q, own_keep h.que (fun b cur q _ => hk.keep b (h.que.lt b q).2 (fun z => (hO b z).2.2.2.1 q)), h.qe, h.ne, h.el, fun b q => (hk.keep b (by have := h.el b q; omega) (fun z => (hO b z).2.1 q)).trans (h.res b q), by have := hk.size; omega, ?_⟩
  · rcases hk.own b q with z | z
    · exact hO b z
    · refine ⟨by omega, fun e => by have := h.el b e; omega, by omega, fun e => by have := (h.que.lt b e).2; omega, fun e => by have := (h.gl e).1; omega⟩
  · have hb := h.below
    exact ⟨hk.os.trans hb.os, hk.tape.trans hb.tape, hk.output.trans hb.output, Nat.le_trans hb.size hk.size, fun b q => (hk.keep b (by omega) (fun z => by have := (hO b z).1; omega)).trans (hb.block b q)⟩
theorem LM.met {fn : Nat} {c1 c2 : Value} {nn mm : Nat} {dec : List (Nat × Nat) → Nat × Nat → Bool} {F : List (Nat × Nat) → (Nat → Prop) → World → Prop} {w V : World} {B0 : Nat} {E : Nat → Prop} {gq : Nat} {rc : List Value} {P : List (Nat × Nat)} {n : Nat} {qc : List Value} {vq : Value} {wr w2 : World} {vq' : Value} {new : List Value} {o : Obj} (H : Frs fn c1 c2 nn mm dec F) (h : LM F w V B0 E gq rc P n qc vq wr) (hB : B0 ≤ w.heap.size) (hg : (wr.alloc o).grownBy w2 vq.ownBlock) (ho : w2.ownsRow w.heap.size 80 3 vq' (n + 1) (qc ++ new)) (hl : vq'.ownBlock = vq.ownBlock ∨ (vq'.ownBlock = some (wr.alloc o).heap.size ∧ (wr.alloc o).grownBy w2 none)) :
    w2.heap[w.heap.size + 4]? = some (.cells #[vq] 74 (0, 0)) ∧ LM F w V B0 E gq rc P (n + 1) (qc ++ new) vq' (w2.setCell ⟨w.heap.size + 4, 0, none⟩ vq') := by
  obtain ⟨O, hF, hO⟩ := h.fr
  have hs := h.sz
  have hql := (Array.getElem?_eq_some_iff.1 h.q).1
  have k' : ∀ b, b < wr.heap.size → vq.ownBlock ≠ some b → w2.heap[b]? = wr.heap[b]? := fun b hlt hne => by
    rw [hg.block b (by simp; omega) (fun e => hne e.symm)]
    exact (below_new wr o).block b hlt
  have hq : w2.heap[w.heap.size + 4]? = some (.cells #[vq] 74 (0, 0)) := (k' _ hql (fun e => by
    obtain ⟨_, cur, hc⟩ := own_blk h.que e
    rw [h.q] at hc
    injection hc with hc; injection hc with _ hc _; cases hc)).trans h.q
  refine ⟨hq, ⟨O, H.keep P O wr _ hF (fun b q => by rw [heap_set_other (hO b q).2.2.1]; exact k' b (H.lt P O wr b hF q) (hO b q).2.2.2.1), fun b q => ⟨(hO b q).1, (hO b q).2.1, (hO b q).2.2.1, fun e => ?_, (hO b q).2.2.2.2⟩⟩, fun q => ⟨?_, (h.gl q).2⟩, fun o' v hv => ?_, fun e => ?_, heap_set hq, ?_, fun b q => ?_, h.ne, h.el, fun b q => ?_, ?_, ?_⟩
  · rcases hl with z | ⟨z, _⟩
    · exact (hO b q).2.2.2.1 (z ▸ e)
    · rw [z] at e
      have := H.lt P O wr b hF q
      simp at e
      omega
  · have h1 := (h.gl q).1
    have h2 := hg.size
    simp [World.setCell] at h2 ⊢
    omega
  · have hr : rc ≠ [] := fun e => by rw [e] at hv; simp at hv
    have hgl := h.gl hr
    rw [World.cell?_of_block (heap_set_other (b := w.heap.size + 4) (c := gq) hgl.2)]
    by_cases e : vq.ownBlock = some gq
    · rcases hl with z | ⟨z, hgn⟩
      · obtain ⟨r, hr2⟩ := h.pre e
        obtain ⟨g', cap', rfl⟩ : ∃ g' cap', vq' = .slice (some ⟨g', 0, none⟩) (n + 1) cap' := by
          rcases ho.2 with ⟨_, h0⟩ | ⟨g', cap', cur, hv', _⟩
          · omega
          · exact ⟨g', cap', hv'⟩
        have eg : g' = gq := by have := z.trans e; simpa [Value.ownBlock] using this
        subst eg
        have hlt := (List.getElem?_eq_some_iff.1 hv).1
        have hl2 := ho.1
        rw [hr2] at hl2
        simp only [List.length_append] at hl2
        rw [ho.cellAt o' (by omega), hr2, List.append_assoc, List.getElem?_append_left hlt]
        exact hv
      · rw [World.cell?_of_block (hgn.block gq (by simp; omega) (by simp))]
        exact (below_cell (below_new wr o) hgl.1).trans (h.hold o' v hv)
    · rw [World.cell?_of_block (k' gq hgl.1 e)]
      exact h.hold o' v hv
  · rcases hl with z | ⟨z, _⟩
    · obtain ⟨r, hr⟩ := h.pre (z ▸ e)
      exact ⟨r ++ new, by rw [hr, List.append_assoc]⟩
    · by_cases hr : rc = []
      · exact ⟨qc ++ new, by rw [hr]; rfl⟩
      · have := (h.gl hr).1
        rw [z] at e
        simp at e
        omega
  · exact own_keep ho (fun b cur _ hc => heap_set_other (fun e => by rw [e, hq] at hc; injection hc with hc; injection hc with _ hc _; cases hc))
  · rcases hl with z | ⟨z, _⟩
    · exact h.qe b (z ▸ q)
    · rw [z] at q
      simp at q
      exact fun e => by have := h.el b e; omega
  · rw [heap_set_other (fun e => h.ne (by rw [← e]; exact q)), k' b (by have := h.el b q; omega) (fun e => h.qe b e q)]
    exact h.res b q
  · have := hg.size
    simp [World.setCell] at this ⊢
    omega
  · refine ((h.below.alloc (by have := h.below.size; omega) o).grown hg (by have := h.below.size; simp; omega) (fun b hb => ?_)).setCell (p := ⟨w.heap.size + 4, 0, none⟩) (by show B0 ≤ w.heap.size + 4; omega) _
    have := (h.que.lt b hb).1
    omega
/-- What meet leaves. -/
def MeR (F : List (Nat × Nat) → (Nat → Prop) → World → Prop) (dec : List (Nat × Nat) → Nat × Nat → Bool) (w V : World) (B0 : Nat) (E : Nat → Prop) (gq : Nat) (rc : List Value) (P : List (Nat × Nat)) (n : Nat) (qc : List Value) (x y : Nat) (mt : List Value) (w' : World) : Prop :=
  (dec P (x, y) = true ∧ ∃ vq', LM F w V B0 E gq rc (P ++ [(x, y)]) (n + 1) (qc ++ mt) vq' w') ∨ (dec P (x, y) = false ∧ ∃ vq', LM F w V B0 E gq rc P n qc vq' w')
def MeQ (F : List (Nat × Nat) → (Nat → Prop) → World → Prop) (dec : List (Nat × Nat) → Nat × Nat → Bool) (w V : World) (B0 : Nat) (E : Nat → Prop) (gq : Nat) (rc : List Value) (P : List (Nat × Nat)) (n : Nat) (qc : List Value) (x y : Nat) (mt : List Value) (g : Bool) (e : Ending) (w' : World) : Prop := e = .returned (.bool (dec P (x, y) && g)) ∧ MeR F dec w V B0 E gq rc P n qc x y mt w'

set_option maxHeartbeats 8000000 in
set_option maxRecDepth 100000 in
theorem emeet_any (F : List (Nat × Nat) → (Nat → Prop) → World → Prop) (dec : List (Nat × Nat) → Nat × Nat → Bool) (fn sn : Nat) (c1 c2 : Value) (g : Bool → Bool → Bool) (A B : Aut) (H : Frs fn c1 c2 A.ac.length B.ac.length dec F) (w V : World) (B0 : Nat) (hB : B0 ≤ w.heap.size) (E : Nat → Prop) (gq : Nat) (rc : List Value) (P : List (Nat × Nat)) (n : Nat) (hn : n ≤ 16777216) (qc : List Value) (vq : Value) (wr : World) (h : LM F w V B0 E gq rc P n qc vq wr)
    (eF : ∀ args w, (callFunc fn args).run Try.prog w = .ok (.enter fn args) w) (eS : ∀ args w, (callFunc sn args).run Try.prog w = .ok (.enter sn args) w)
    (hS : ∀ p q w, Calls Try.prog sn #[.bool p, .bool q] w fun e w' => e = .returned (.bool (g p q)) ∧ w' = w)
    (an bn : Option Addr) (cn dn ca da ga oa gb ob : Nat) (hE : ∀ b, w.heap.size ≤ b → b < w.heap.size + 4 → E b)
    (v1 : V.heap[w.heap.size]? = some (.cells #[.int .i64 A.k, .slice an A.nx.length cn, .slice (some ⟨ga, oa, none⟩) A.ac.length ca] 25 (0, 0))) (v2 : V.heap[w.heap.size + 1]? = some (.cells #[.int .i64 A.k, .slice bn B.nx.length dn, .slice (some ⟨gb, ob, none⟩) B.ac.length da] 25 (0, 0))) (v3 : V.heap[w.heap.size + 2]? = some (.cells #[(.func (.func fn) #[] #[c1, c2])] 56 (0, 0))) (v4 : V.heap[w.heap.size + 3]? = some (.cells #[(.func (.func sn) #[] #[])] 58 (0, 0)))
    (hA : ∀ z, Below B0 w z → ∀ i, i < A.ac.length → z.cell? ⟨ga, oa + i, none⟩ = some (.bool (A.ac.getD i false))) (hBB : ∀ z, Below B0 w z → ∀ i, i < B.ac.length → z.cell? ⟨gb, ob + i, none⟩ = some (.bool (B.ac.getD i false)))
    (x y by' : Nat) (hx : x < A.ac.length) (hy : y < B.ac.length) (hx4 : A.ac.length ≤ 4096) (hy4 : B.ac.length ≤ 4096) (hby : by' ≤ 4294967295) :
    Calls Try.prog 53 #[peV x y, .int .i64 by', .pointer (some ⟨w.heap.size + 2, 0, none⟩), .pointer (some ⟨w.heap.size + 4, 0, none⟩), .pointer (some ⟨w.heap.size + 3, 0, none⟩), .pointer (some ⟨w.heap.size, 0, none⟩), .pointer (some ⟨w.heap.size + 1, 0, none⟩)] wr (MeQ F dec w V B0 E gq rc P n qc x y [.int .u16 (x : Int), .int .u16 (y : Int), .int .u32 (by' : Int)] (g (A.ac.getD x false) (B.ac.getD y false))) := by
  obtain ⟨i0, hi, hz0, hz1, hz2⟩ := info_parts Try.info_meetE
  have hwr4 : w.heap.size + 4 < wr.heap.size := (Array.getElem?_eq_some_iff.1 h.q).1
  obtain ⟨pb, hpb⟩ : ∃ pb, wr.heap.size = pb := ⟨_, rfl⟩
  obtain ⟨w1, hw1⟩ : ∃ w1, w1 = wr.alloc (.cells #[.int .u16 (x : Int), .int .u16 (y : Int)] 77) := ⟨_, rfl⟩
  have hb1 : Below wr.heap.size wr w1 := by rw [hw1]; exact below_new _ _
  have h1 := LM.call H hB h hb1
  obtain ⟨O, hF0, hO⟩ := h.fr
  have hF : F P O w1 := H.keep P O wr w1 hF0 (fun b q => hb1.block b (H.lt P O wr b hF0 q))
  have HPO : Hid (¬ O pb) := fun q => by have := H.lt P O wr pb hF0 q; omega
  have HW1 : Hid (w1 = wr.alloc (.cells #[.int .u16 (x : Int), .int .u16 (y : Int)] 77)) := hw1
  have HPB : Hid (w1.heap[pb]? = some (.cells #[.int .u16 (x : Int), .int .u16 (y : Int)] 77 (0, 0))) := by
    show w1.heap[pb]? = _
    rw [hw1, ← hpb]; exact heap_alloc_last _ _
  have HV : Hid (∀ z, LM F w V B0 E gq rc (P ++ [(x, y)]) n qc vq z ∨ (∃ vq', LM F w V B0 E gq rc (P ++ [(x, y)]) (n + 1) (qc ++ [.int .u16 (x : Int), .int .u16 (y : Int), .int .u32 (by' : Int)]) vq' z) → (∀ o, z.cell? ⟨w.heap.size, o, none⟩ = (#[.int .i64 A.k, .slice an A.nx.length cn, .slice (some ⟨ga, oa, none⟩) A.ac.length ca] : Array Value)[o]?) ∧ (∀ o, z.cell? ⟨w.heap.size + 1, o, none⟩ = (#[.int .i64 A.k, .slice bn B.nx.length dn, .slice (some ⟨gb, ob, none⟩) B.ac.length da] : Array Value)[o]?) ∧ z.cell? ⟨w.heap.size + 3, 0, none⟩ = some (.func (.func sn) #[] #[])) := fun z hz => by
    have hr : ∀ b, E b → z.heap[b]? = V.heap[b]? := by
      rcases hz with q | ⟨vq', q⟩
      · exact q.res
      · exact q.res
    exact ⟨fun o => (World.cell?_of_block (hr _ (hE w.heap.size (by omega) (by omega)))).trans (cell_of v1), fun o => (World.cell?_of_block (hr _ (hE (w.heap.size + 1) (by omega) (by omega)))).trans (cell_of v2), (World.cell?_of_block (hr _ (hE (w.heap.size + 3) (by omega) (by omega)))).trans (cell_of v4)⟩
  have HL1 : Hid (LM F w V B0 E gq rc P n qc vq w1) := h1
  have cf : (wr.alloc (.cells #[.int .u16 (x : Int), .int .u16 (y : Int)] 77)).cell? ⟨w.heap.size + 2, 0, none⟩ = some (.func (.func fn) #[] #[c1, c2]) := by rw [← hw1]; exact (World.cell?_of_block (h1.res _ (hE (w.heap.size + 2) (by omega) (by omega)))).trans (cell_of v3)
  have HFO : Hid (∀ b, O b → B0 ≤ b ∧ ¬ E b ∧ b ≠ w.heap.size + 4 ∧ vq.ownBlock ≠ some b ∧ (rc ≠ [] → b ≠ gq)) := hO
  have HCF : Hid (Calls Try.prog fn #[peV x y, c1, c2] w1 fun e w' => e = .returned (.bool (dec P (x, y))) ∧ ∃ O', F (if dec P (x, y) then P ++ [(x, y)] else P) O' w' ∧ FK O O' w1 w') := H.call P O w1 x y hF hx hy
  have hs1 := hb1.size
  have hB1 : B0 ≤ w1.heap.size := by have := h.below.size; omega
  have HH : Hid (Frs fn c1 c2 A.ac.length B.ac.length dec F) := H
  have HA : Hid (∀ z, Below B0 w z → ∀ i, i < A.ac.length → z.cell? ⟨ga, oa + i, none⟩ = some (.bool (A.ac.getD i false))) := hA
  have HBB : Hid (∀ z, Below B0 w z → ∀ i, i < B.ac.length → z.cell? ⟨gb, ob + i, none⟩ = some (.bool (B.ac.getD i false))) := hBB
  have HSS : Hid (∀ p q w, Calls Try.prog sn #[.bool p, .bool q] w fun e w' => e = .returned (.bool (g p q)) ∧ w' = w) := hS
  have hpl : pb < w1.heap.size := (Array.getElem?_eq_some_iff.1 HPB.out).1
  have HPQ : Hid (pb ≠ w.heap.size + 4 ∧ vq.ownBlock ≠ some pb) := ⟨by omega, fun e => by have := (h.que.lt pb e).2; omega⟩
  obtain ⟨p, hp⟩ : ∃ p, A.ac.getD x false = p := ⟨_, rfl⟩
  obtain ⟨q, hq⟩ : ∃ q, B.ac.getD y false = q := ⟨_, rfl⟩
  have HPP : Hid (A.ac.getD x false = p ∧ B.ac.getD y false = q) := ⟨hp, hq⟩
  rw [hp, hq]
  clear h h1 hF0 hF hO H hw1 hb1 v1 v2 v3 v4 hE hA hBB hS hp hq
  go_enter Try.func53, Try.ntmps53
  go_wp2_with fail
  rw [← HW1.out]
  refine HCF.out.mono ?_
  rintro e w2 ⟨rfl, O', hF2, hk2⟩
  have hpb2 : w2.heap[pb]? = some (.cells #[.int .u16 (x : Int), .int .u16 (y : Int)] 77 (0, 0)) := (hk2.keep pb hpl HPO.out).trans HPB.out
  cases hd : dec P (x, y) with
  | false =>
    rw [hd] at hF2
    have HM : Hid (LM F w V B0 E gq rc P n qc vq w2) := HL1.out.fresh HFO.out hF2 hk2 hB1
    have HD : Hid (dec P (x, y) = false) := hd
    clear hF2 hk2 hpb2 hd
    go_wp2_with fail
    go_ret
    exact ⟨by rw [HD.out]; rfl, .inr ⟨HD.out, vq, HM.out⟩⟩
  | true =>
    rw [hd] at hF2
    have hM := HL1.out.fresh HFO.out hF2 hk2 hB1
    have HM : Hid (LM F w V B0 E gq rc (P ++ [(x, y)]) n qc vq w2) := hM
    have HD : Hid (dec P (x, y) = true) := hd
    have HP2 : Hid (w2.heap[pb]? = some (.cells #[.int .u16 (x : Int), .int .u16 (y : Int)] 77 (0, 0))) := hpb2
    obtain ⟨va, vc, hvq⟩ := own_shape hM.que
    subst hvq
    have cq : w2.cell? ⟨w.heap.size + 4, 0, none⟩ = some (.slice va n vc) := cell_of hM.q
    have cp : ∀ o, w2.cell? ⟨pb, o, none⟩ = (#[.int .u16 (x : Int), .int .u16 (y : Int)] : Array Value)[o]? := fun o => cell_of hpb2
    have hwb : IntKind.u32.wrap (by' : Int) = (by' : Int) := by rw [IntKind.wrap_u32]; omega
    have hV2 : w.heap.size ≤ w2.heap.size := hM.below.size
    clear hF2 hk2 hpb2 hd hM
    go_wp2_with (at_builtin; refine wpList_append_keep _ rfl _ _ 74 rfl w.heap.size 80 i0 (.agg #[.int .u16 0, .int .u16 0, .int .u32 0]) 3 8 Try.underlying74 hi hz0 hz1 hz2 rfl (by decide) _ _ _ rfl (HM.out.que.alloc _) ⟨w2.heap.size, 0, none⟩ 1 1 [.int .u16 (x : Int), .int .u16 (y : Int), .int .u32 (by' : Int)] rfl rfl (cell_news w2 #[.int .u16 (x : Int), .int .u16 (y : Int), .int .u32 (by' : Int)] 80) (by intro z hz; simp at hz; rcases hz with rfl | rfl | rfl <;> rfl) (by unfold maxLen; omega) (by omega) (by simp; omega) ?_; intro v6 w6 ho6 hg6 hl6; have hM6 := HM.out.met HH.out hB hg6 ho6 hl6; have c6 : w6.cell? ⟨w.heap.size + 4, 0, none⟩ = some (.slice va n vc) := cell_of hM6.1; have f6 : w6.frozen? ⟨w.heap.size + 4, 0, none⟩ = false := froz_of hM6.1; obtain ⟨a6, d6, rfl⟩ := own_shape ho6; have HM6 : Hid (LM F w V B0 E gq rc (P ++ [(x, y)]) (n + 1) (qc ++ [.int .u16 (x : Int), .int .u16 (y : Int), .int .u32 (by' : Int)]) (.slice a6 (n + 1) d6) (w6.setCell ⟨w.heap.size + 4, 0, none⟩ (.slice a6 (n + 1) d6))) := hM6.2; have HP6 : Hid ((w6.setCell ⟨w.heap.size + 4, 0, none⟩ (.slice a6 (n + 1) d6)).heap[pb]? = some (.cells #[.int .u16 (x : Int), .int .u16 (y : Int)] 77 (0, 0))) := (by show (w6.setCell ⟨w.heap.size + 4, 0, none⟩ (.slice a6 (n + 1) d6)).heap[pb]? = _; rw [heap_set_other HPQ.out.1, hg6.block pb (by have := (Array.getElem?_eq_some_iff.1 HP2.out).1; simp; omega) (fun e => HPQ.out.2 e.symm)]; exact ((below_new w2 _).block pb (Array.getElem?_eq_some_iff.1 HP2.out).1).trans HP2.out); clear hM6 ho6 hg6 hl6)
    obtain ⟨w9, hw9⟩ : ∃ w9, w6.setCell ⟨w.heap.size + 4, 0, none⟩ (.slice a6 (n + 1) d6) = w9 := ⟨_, rfl⟩
    rw [hw9] at HM6 HP6 ⊢
    obtain ⟨s1, s2, s3⟩ := HV.out w9 (.inr ⟨_, HM6.out⟩)
    have s4 : ∀ o, w9.cell? ⟨pb, o, none⟩ = (#[.int .u16 (x : Int), .int .u16 (y : Int)] : Array Value)[o]? := fun o => cell_of HP6.out
    have s5 := HA.out w9 HM6.out.below x hx
    have s6 := HBB.out w9 HM6.out.below y hy
    rw [HPP.out.1] at s5
    rw [HPP.out.2] at s6
    have hxI : (x : Int) < A.ac.length := by omega
    have hyI : (y : Int) < B.ac.length := by omega
    have S0 : (∀ o, w9.drew.cell? ⟨w.heap.size, o, none⟩ = (#[.int .i64 A.k, .slice an A.nx.length cn, .slice (some ⟨ga, oa, none⟩) A.ac.length ca] : Array Value)[o]?) ∧ (∀ o, w9.drew.cell? ⟨w.heap.size + 1, o, none⟩ = (#[.int .i64 A.k, .slice bn B.nx.length dn, .slice (some ⟨gb, ob, none⟩) B.ac.length da] : Array Value)[o]?) ∧ w9.drew.cell? ⟨w.heap.size + 3, 0, none⟩ = some (.func (.func sn) #[] #[]) ∧ (∀ o, w9.drew.cell? ⟨pb, o, none⟩ = (#[.int .u16 (x : Int), .int .u16 (y : Int)] : Array Value)[o]?) ∧ w9.drew.cell? ⟨ga, oa + x, none⟩ = some (.bool p) ∧ w9.drew.cell? ⟨gb, ob + y, none⟩ = some (.bool q) ∧ Below w9.heap.size w9 w9.drew := ⟨s1, s2, s3, s4, s5, s6, (Below.refl _ _).drew⟩
    have HBD : Hid (LM F w V B0 E gq rc (P ++ [(x, y)]) (n + 1) (qc ++ [.int .u16 (x : Int), .int .u16 (y : Int), .int .u32 (by' : Int)]) (.slice a6 (n + 1) d6) w9) := HM6.out
    clear c6 f6 hw9 s1 s2 s3 s4 s5 s6 cq cp
    go_wp2_with fail
    go_region_held3 (fun z => (∀ o, z.cell? ⟨w.heap.size, o, none⟩ = (#[.int .i64 A.k, .slice an A.nx.length cn, .slice (some ⟨ga, oa, none⟩) A.ac.length ca] : Array Value)[o]?) ∧ (∀ o, z.cell? ⟨w.heap.size + 1, o, none⟩ = (#[.int .i64 A.k, .slice bn B.nx.length dn, .slice (some ⟨gb, ob, none⟩) B.ac.length da] : Array Value)[o]?) ∧ z.cell? ⟨w.heap.size + 3, 0, none⟩ = some (.func (.func sn) #[] #[]) ∧ (∀ o, z.cell? ⟨pb, o, none⟩ = (#[.int .u16 (x : Int), .int .u16 (y : Int)] : Array Value)[o]?) ∧ z.cell? ⟨ga, oa + x, none⟩ = some (.bool p) ∧ z.cell? ⟨gb, ob + y, none⟩ = some (.bool q) ∧ Below w9.heap.size w9 z) (first | exact S0 | assumption) (first
      | (refine (HSS.out _ _ _).mono ?_; rintro e y9 ⟨rfl, hy9⟩; subst hy9))
    all_goals (
      have HM9 : Hid (LM F w V B0 E gq rc (P ++ [(x, y)]) (n + 1) (qc ++ [.int .u16 (x : Int), .int .u16 (y : Int), .int .u32 (by' : Int)]) (.slice a6 (n + 1) d6) w9.drew) := LM.call HH.out hB HBD.out (Below.refl _ _).drew
      go_wp2_with fail
      go_ret
      exact ⟨by rw [HD.out]; rfl, .inl ⟨HD.out, _, HM9.out⟩⟩)
end Go.Proofs.Ytggheiblgghpkaa

namespace Go.Proofs.Ytggheiblgghpkaa
open Go Go.RowKit Go.Lib
set_option linter.unusedVariables false

/-- A list of pairs each of which was fresh. -/
def Vld (dec : List (Nat × Nat) → Nat × Nat → Bool) (n m : Nat) (P : List (Nat × Nat)) : Prop := ∀ (i : Nat) (p : Nat × Nat), P[i]? = some p → dec (P.take i) p = true ∧ p.1 < n ∧ p.2 < m
theorem Vld.nil (dec : List (Nat × Nat) → Nat × Nat → Bool) (n m : Nat) : Vld dec n m [] := fun i p h => by simp at h
theorem Vld.snoc {dec : List (Nat × Nat) → Nat × Nat → Bool} {n m : Nat} {P : List (Nat × Nat)} (h : Vld dec n m P) {p : Nat × Nat} (hd : dec P p = true) (h1 : p.1 < n) (h2 : p.2 < m) : Vld dec n m (P ++ [p]) := fun i q hq => by
  rcases nod_snoc hq with z | ⟨rfl, rfl⟩
  · have hl := (List.getElem?_eq_some_iff.1 z).1
    rw [List.take_append_of_le_length (by omega)]
    exact h i q z
  · rw [List.take_append_of_le_length (Nat.le_refl _), List.take_length]
    exact ⟨hd, h1, h2⟩
/-- The next node shows it, and none that was met does. -/
theorem QI.last {S : Type} {d : S → Nat → S} {k : Nat} {sh : S → Bool} {x : S} {Q : List (Nod S)} {i c : Nat} (h : QI d k sh x Q i c) {n : Nod S} (hi : Q[i]? = some n) (hk : c < k) (hs : sh (d n.p c) = true) (hf : ∀ m ∈ Q, sh m.p = false) : lsh d k sh x = some (n.w ++ [c]) := by
  have hN := h.new hi hk
  have hil := (List.getElem?_eq_some_iff.1 hi).1
  refine lsh_some (hN.found (t := Q.length) (n := ⟨d n.p c, i, c, n.w ++ [c]⟩) List.getElem?_concat_length hs (fun j m hj hm => ?_) (fun j m a hm hp => ?_))
  · rw [List.getElem?_append_left hj] at hm
    exact hf m (List.mem_of_getElem? hm)
  · rcases nod_snoc hm with z | ⟨rfl, rfl⟩
    · by_cases e : j = i
      · subst e
        rw [hi, Option.some.injEq] at z
        subst z
        exact (slt_letter _ (show c < a by omega)).1
      · exact (slt_snoc (h.ord i j n m (by omega) hi z) c a).1
    · exact sle_more _ _
/-- How far least has come. -/
structure LI (A B : Aut) (K : Nat) (sh : Nat × Nat → Bool) (dec : List (Nat × Nat) → Nat × Nat → Bool) (Q : List (Nod (Nat × Nat))) (i c : Nat) : Prop where
  qi : QI (dd A B) K sh (0, 0) Q i c
  nsh : ∀ m ∈ Q, sh m.p = false
  oks : ∀ m ∈ Q, m.p.1 < A.ac.length ∧ m.p.2 < B.ac.length
  val : Vld dec A.ac.length B.ac.length (Q.map Nod.p)
/-- What least answers. -/
def LeQ (o : Option (List Nat)) (dec : List (Nat × Nat) → Nat × Nat → Bool) (n m B0 : Nat) (w : World) (e : Ending) (w' : World) : Prop := e = .returned (.tuple #[.string (apS o), .bool (apF o)]) ∧ (∀ u, o = some u → ∃ P, Vld dec n m P ∧ u.length < P.length) ∧ Below B0 w w'
def LB (w V : World) (a b : Array Value) (vf vs : Value) : Prop := V.heap[w.heap.size]? = some (.cells a 25 (0, 0)) ∧ V.heap[w.heap.size + 1]? = some (.cells b 25 (0, 0)) ∧ V.heap[w.heap.size + 2]? = some (.cells #[vf] 56 (0, 0)) ∧ V.heap[w.heap.size + 3]? = some (.cells #[vs] 58 (0, 0))

theorem LM.mark {F : List (Nat × Nat) → (Nat → Prop) → World → Prop} {w V : World} {B0 : Nat} {E : Nat → Prop} {P : List (Nat × Nat)} {n : Nat} {qc : List Value} {gq cap : Nat} {wr : World} (h : LM F w V B0 E 0 [] P n qc (.slice (some ⟨gq, 0, none⟩) n cap) wr) : LM F w V B0 E gq qc P n qc (.slice (some ⟨gq, 0, none⟩) n cap) wr := by
  obtain ⟨O, hF, hO⟩ := h.fr
  have hown : (Value.slice (some ⟨gq, 0, none⟩) n cap).ownBlock = some gq := rfl
  refine ⟨⟨O, hF, fun b q => ⟨(hO b q).1, (hO b q).2.1, (hO b q).2.2.1, (hO b q).2.2.2.1, fun _ e => (hO b q).2.2.2.1 (by rw [hown, e])⟩⟩, fun _ => ⟨(h.que.lt gq hown).2, fun e => ?_⟩, fun o v hv => ?_, fun _ => ⟨[], by simp⟩, h.q, h.que, h.qe, h.ne, h.el, h.res, h.sz, h.below⟩
  · obtain ⟨_, cur, hc⟩ := own_blk h.que hown
    rw [e, h.q] at hc
    injection hc with hc; injection hc with _ hc _; cases hc
  · have hl := (List.getElem?_eq_some_iff.1 hv).1
    have h1 := h.que.1
    rw [h.que.cellAt o (by omega)]
    exact hv
theorem LM.unmark {F : List (Nat × Nat) → (Nat → Prop) → World → Prop} {w V : World} {B0 : Nat} {E : Nat → Prop} {gq : Nat} {rc : List Value} {P : List (Nat × Nat)} {n : Nat} {qc : List Value} {vq : Value} {wr : World} (h : LM F w V B0 E gq rc P n qc vq wr) : LM F w V B0 E 0 [] P n qc vq wr := by
  obtain ⟨O, hF, hO⟩ := h.fr
  exact ⟨⟨O, hF, fun b q => ⟨(hO b q).1, (hO b q).2.1, (hO b q).2.2.1, (hO b q).2.2.2.1, fun e => absurd rfl e⟩⟩, fun e => absurd rfl e, fun o v hv => by simp at hv, fun _ => ⟨qc, rfl⟩, h.q, h.que, h.qe, h.ne, h.el, h.res, h.sz, h.below⟩
/-- With a box more that is kept. -/
theorem LM.box {fn : Nat} {c1 c2 : Value} {nn mm : Nat} {dec : List (Nat × Nat) → Nat × Nat → Bool} {F : List (Nat × Nat) → (Nat → Prop) → World → Prop} {w V : World} {B0 : Nat} {E : Nat → Prop} {gq : Nat} {rc : List Value} {P : List (Nat × Nat)} {n : Nat} {qc : List Value} {vq : Value} {wr : World} (H : Frs fn c1 c2 nn mm dec F) (hB : B0 ≤ w.heap.size) (h : LM F w V B0 E gq rc P n qc vq wr) (o : Obj) : LM F w (wr.alloc o) B0 (fun b => E b ∨ b = wr.heap.size) gq rc P n qc vq (wr.alloc o) := by
  have hc := LM.call H hB h (below_new wr o)
  obtain ⟨O, hF0, hO0⟩ := h.fr
  have hs := h.sz
  have hql := (Array.getElem?_eq_some_iff.1 h.q).1
  refine ⟨⟨O, H.keep P O wr _ hF0 (fun b q => (below_new wr o).block b (H.lt P O wr b hF0 q)), fun b q => ⟨(hO0 b q).1, fun e => ?_, (hO0 b q).2.2⟩⟩, hc.gl, hc.hold, hc.pre, hc.q, hc.que, fun b q e => ?_, fun e => ?_, fun b e => ?_, fun b e => rfl, Nat.le_refl _, hc.below⟩
  · rcases e with e | e
    · exact (hO0 b q).2.1 e
    · have := H.lt P O wr b hF0 q
      omega
  · rcases e with e | e
    · exact h.qe b q e
    · have := (h.que.lt b q).2
      omega
  · rcases e with e | e
    · exact h.ne e
    · omega
  · rcases e with e | e
    · have := h.el b e
      simp
      omega
    · simp [e]
theorem LM.less {F : List (Nat × Nat) → (Nat → Prop) → World → Prop} {w V V' : World} {B0 : Nat} {E E' : Nat → Prop} {gq : Nat} {rc : List Value} {P : List (Nat × Nat)} {n : Nat} {qc : List Value} {vq : Value} {wr : World} (h : LM F w V' B0 E' gq rc P n qc vq wr) (hE : ∀ b, E b → E' b) (hel : ∀ b, E b → b < V.heap.size) (hre : ∀ b, E b → V'.heap[b]? = V.heap[b]?) (hsz : V.heap.size ≤ V'.heap.size) : LM F w V B0 E gq rc P n qc vq wr := by
  obtain ⟨O, hF, hO⟩ := h.fr
  exact ⟨⟨O, hF, fun b q => ⟨(hO b q).1, fun e => (hO b q).2.1 (hE b e), (hO b q).2.2⟩⟩, h.gl, h.hold, h.pre, h.q, h.que, fun b q e => h.qe b q (hE b e), fun e => h.ne (hE _ e), hel, fun b e => (h.res b (hE b e)).trans (hre b e), Nat.le_trans hsz h.sz, h.below⟩
theorem LI.old {A B : Aut} {K : Nat} {sh : Nat × Nat → Bool} {dec : List (Nat × Nat) → Nat × Nat → Bool} {Q : List (Nod (Nat × Nat))} {i c : Nat} (h : LI A B K sh dec Q i c) {n : Nod (Nat × Nat)} (hi : Q[i]? = some n) (hc : ∀ v, sh (wrun (dd A B) (dd A B n.p c) v) = true → ∃ q ∈ Q.map Nod.p, sh (wrun (dd A B) q v) = true) : LI A B K sh dec Q i (c + 1) :=
  ⟨h.qi.old hi (fun v hv => by
    obtain ⟨q, hq, hs⟩ := hc v hv
    obtain ⟨m, hm, rfl⟩ := List.mem_map.1 hq
    exact ⟨m, hm, hs⟩), h.nsh, h.oks, h.val⟩
theorem LI.new {A B : Aut} {K : Nat} {sh : Nat × Nat → Bool} {dec : List (Nat × Nat) → Nat × Nat → Bool} {Q : List (Nod (Nat × Nat))} {i c : Nat} (h : LI A B K sh dec Q i c) {n : Nod (Nat × Nat)} (hi : Q[i]? = some n) (hc : c < K) (hd : dec (Q.map Nod.p) (dd A B n.p c) = true) (h1 : (dd A B n.p c).1 < A.ac.length) (h2 : (dd A B n.p c).2 < B.ac.length) (hs : sh (dd A B n.p c) = false) : LI A B K sh dec (Q ++ [⟨dd A B n.p c, i, c, n.w ++ [c]⟩]) i (c + 1) := by
  refine ⟨h.qi.new hi hc, fun m hm => ?_, fun m hm => ?_, ?_⟩
  · rcases List.mem_append.1 hm with q | q
    · exact h.nsh m q
    · rw [List.mem_singleton.1 q]; exact hs
  · rcases List.mem_append.1 hm with q | q
    · exact h.oks m q
    · rw [List.mem_singleton.1 q]; exact ⟨h1, h2⟩
  · rw [List.map_append]
    exact h.val.snoc hd h1 h2
/-- In the midst of a node's letters. -/
def LIn (F : List (Nat × Nat) → (Nat → Prop) → World → Prop) (A B : Aut) (K : Nat) (sh : Nat × Nat → Bool) (dec : List (Nat × Nat) → Nat × Nat → Bool) (w V : World) (B0 : Nat) (E : Nat → Prop) (gq : Nat) (R : List (Nod (Nat × Nat))) (n : Nod (Nat × Nat)) (I c : Nat) (wr : World) : Prop := ∃ (Q : List (Nod (Nat × Nat))) (vq : Value), LM F w V B0 E gq (R.flatMap (emC K)) (Q.map Nod.p) Q.length (Q.flatMap (emC K)) vq wr ∧ LI A B K sh dec Q I c ∧ Q[I]? = some n ∧ ∃ T, Q = R ++ T
/-- Where it was found. -/
def LFd (F : List (Nat × Nat) → (Nat → Prop) → World → Prop) (A B : Aut) (K : Nat) (sh : Nat × Nat → Bool) (dec : List (Nat × Nat) → Nat × Nat → Bool) (w V : World) (B0 : Nat) (E : Nat → Prop) (gq : Nat) (R : List (Nod (Nat × Nat))) (wr : World) : Prop := ∃ (Q : List (Nod (Nat × Nat))) (vq : Value) (n : Nod (Nat × Nat)), LM F w V B0 E gq (R.flatMap (emC K)) (Q.map Nod.p) Q.length (Q.flatMap (emC K)) vq wr ∧ Q[Q.length - 1]? = some n ∧ Ups K Q ∧ lsh (dd A B) K sh (0, 0) = some n.w ∧ Vld dec A.ac.length B.ac.length (Q.map Nod.p) ∧ n.w.length < Q.length
theorem LIn.step {F : List (Nat × Nat) → (Nat → Prop) → World → Prop} {A B : Aut} {K : Nat} {sh : Nat × Nat → Bool} {dec : List (Nat × Nat) → Nat × Nat → Bool} {w V : World} {B0 : Nat} {E : Nat → Prop} {gq : Nat} {R : List (Nod (Nat × Nat))} {n : Nod (Nat × Nat)} {I c : Nat} {Q : List (Nod (Nat × Nat))} {y3 : World} (hL : LI A B K sh dec Q I c) (hn : Q[I]? = some n) (hT : ∃ T, Q = R ++ T) (hc : c < K) (h1 : dN A n.p.1 c < A.ac.length) (h2 : dN B n.p.2 c < B.ac.length)
    (hcov : ∀ P p, Vld dec A.ac.length B.ac.length P → p.1 < A.ac.length → p.2 < B.ac.length → dec P p = false → ∀ v, sh (wrun (dd A B) p v) = true → ∃ q ∈ P, sh (wrun (dd A B) q v) = true)
    (hm : MeR F dec w V B0 E gq (R.flatMap (emC K)) (Q.map Nod.p) Q.length (Q.flatMap (emC K)) (dN A n.p.1 c) (dN B n.p.2 c) [.int .u16 (dN A n.p.1 c : Nat), .int .u16 (dN B n.p.2 c : Nat), .int .u32 ((I * K + c : Nat) : Int)] y3) :
    ((dec (Q.map Nod.p) (dN A n.p.1 c, dN B n.p.2 c) && sh (dN A n.p.1 c, dN B n.p.2 c)) = false → LIn F A B K sh dec w V B0 E gq R n I (c + 1) y3) ∧ ((dec (Q.map Nod.p) (dN A n.p.1 c, dN B n.p.2 c) && sh (dN A n.p.1 c, dN B n.p.2 c)) = true → LFd F A B K sh dec w V B0 E gq R y3) := by
  have hil := (List.getElem?_eq_some_iff.1 hn).1
  obtain ⟨T, hT⟩ := hT
  rcases hm with ⟨hd, vq, hM⟩ | ⟨hd, vq, hM⟩
  · have e1 : (Q ++ [(⟨dd A B n.p c, I, c, n.w ++ [c]⟩ : Nod (Nat × Nat))]).map Nod.p = Q.map Nod.p ++ [(dN A n.p.1 c, dN B n.p.2 c)] := by simp [dd]
    have e2 : (Q ++ [(⟨dd A B n.p c, I, c, n.w ++ [c]⟩ : Nod (Nat × Nat))]).flatMap (emC K) = Q.flatMap (emC K) ++ [.int .u16 (dN A n.p.1 c : Nat), .int .u16 (dN B n.p.2 c : Nat), .int .u32 ((I * K + c : Nat) : Int)] := by
      rw [List.flatMap_append]; simp [emC, dd]
    have hM' : LM F w V B0 E gq (R.flatMap (emC K)) ((Q ++ [(⟨dd A B n.p c, I, c, n.w ++ [c]⟩ : Nod (Nat × Nat))]).map Nod.p) (Q ++ [(⟨dd A B n.p c, I, c, n.w ++ [c]⟩ : Nod (Nat × Nat))]).length ((Q ++ [(⟨dd A B n.p c, I, c, n.w ++ [c]⟩ : Nod (Nat × Nat))]).flatMap (emC K)) vq y3 := by
      rw [e1, e2, List.length_append]; exact hM
    rw [hd, Bool.true_and]
    refine ⟨fun hs => ⟨_, vq, hM', hL.new hn hc hd h1 h2 hs, by rw [List.getElem?_append_left hil]; exact hn, T ++ [_], by rw [← List.append_assoc, ← hT]⟩, fun hs => ⟨_, vq, ⟨dd A B n.p c, I, c, n.w ++ [c]⟩, hM', ?_, (hL.qi.new hn hc).ups, hL.qi.last hn hc hs hL.nsh, ?_, ?_⟩⟩
    · rw [List.length_append, List.length_singleton, Nat.add_sub_cancel]
      exact List.getElem?_concat_length
    · rw [e1]
      exact hL.val.snoc hd h1 h2
    · have := (hL.qi.leads I n hn).2.2
      simp
      omega
  · rw [hd, Bool.false_and]
    exact ⟨fun _ => ⟨Q, vq, hM, hL.old hn (hcov _ (dd A B n.p c) hL.val h1 h2 hd), hn, T, hT⟩, fun e => by cases e⟩

set_option maxHeartbeats 16000000 in
set_option maxRecDepth 100000 in
theorem least_any (F : List (Nat × Nat) → (Nat → Prop) → World → Prop) (dec : List (Nat × Nat) → Nat × Nat → Bool) (fn sn : Nat) (c1 c2 : Value) (g : Bool → Bool → Bool) (A B : Aut) (H : Frs fn c1 c2 A.ac.length B.ac.length dec F) (w : World) (B0 : Nat) (hB : B0 ≤ w.heap.size) (O : Nat → Prop) (hF0 : F [] O w) (hO : ∀ b, O b → B0 ≤ b)
    (va vb : Value) (hARa : ∀ z, Below B0 w z → AR z va A) (hARb : ∀ z, Below B0 w z → AR z vb B) (GA : Good A) (GB : Good B) (hkk : B.k = A.k)
    (eF : ∀ args w, (callFunc fn args).run Try.prog w = .ok (.enter fn args) w) (eS : ∀ args w, (callFunc sn args).run Try.prog w = .ok (.enter sn args) w)
    (hS : ∀ p q w, Calls Try.prog sn #[.bool p, .bool q] w fun e w' => e = .returned (.bool (g p q)) ∧ w' = w)
    (sh : Nat × Nat → Bool) (hsh : ∀ x y, sh (x, y) = g (A.ac.getD x false) (B.ac.getD y false))
    (hcov : ∀ P p, Vld dec A.ac.length B.ac.length P → p.1 < A.ac.length → p.2 < B.ac.length → dec P p = false → ∀ v, sh (wrun (dd A B) p v) = true → ∃ q ∈ P, sh (wrun (dd A B) q v) = true)
    (hlen : ∀ P, Vld dec A.ac.length B.ac.length P → P.length ≤ 16777216) :
    Calls Try.prog 36 #[va, vb, (.func (.func fn) #[] #[c1, c2]), (.func (.func sn) #[] #[])] w (LeQ (lsh (dd A B) A.k.toNat sh (0, 0)) dec A.ac.length B.ac.length B0 w) := by
  obtain ⟨an, cn, aa, ca, ea, k1, k2⟩ := (hARa w (Below.refl _ _)).is
  obtain ⟨bn, dn, ba, da, eb, l1, l2⟩ := (hARb w (Below.refl _ _)).is
  have hn1 := GA.n1
  have hn2 := GA.n2
  have hm1 := GB.n1
  have hm2 := GB.n2
  obtain ⟨ga, oa, rfl, _, _⟩ := k2.bool (i := 0) (by omega)
  obtain ⟨gb, ob, rfl, _, _⟩ := l2.bool (i := 0) (by omega)
  rw [hkk] at eb
  have CA : Hid (∀ z, Below B0 w z → ∀ i, i < A.ac.length → z.cell? ⟨ga, oa + i, none⟩ = some (.bool (A.ac.getD i false))) := fun z hz i hi => by
    obtain ⟨an', cn', aa', ca', e', _, k'⟩ := (hARa z hz).is
    rw [ea] at e'
    simp only [Value.agg.injEq, Array.mk.injEq, List.cons.injEq, Value.slice.injEq, and_true, true_and] at e'
    obtain ⟨g', o', e2, _, hc'⟩ := k'.bool hi
    rw [← e'.2.1] at e2
    simp only [Option.some.injEq, Addr.mk.injEq] at e2
    obtain ⟨rfl, rfl, _⟩ := e2
    exact hc'
  have CB : Hid (∀ z, Below B0 w z → ∀ i, i < B.ac.length → z.cell? ⟨gb, ob + i, none⟩ = some (.bool (B.ac.getD i false))) := fun z hz i hi => by
    obtain ⟨an', cn', aa', ca', e', _, k'⟩ := (hARb z hz).is
    rw [eb, hkk] at e'
    simp only [Value.agg.injEq, Array.mk.injEq, List.cons.injEq, Value.slice.injEq, and_true, true_and] at e'
    obtain ⟨g', o', e2, _, hc'⟩ := k'.bool hi
    rw [← e'.2.1] at e2
    simp only [Option.some.injEq, Addr.mk.injEq] at e2
    obtain ⟨rfl, rfl, _⟩ := e2
    exact hc'
  have hk1 := GA.k1
  have hk8 := GA.k8
  obtain ⟨K, hK⟩ : ∃ K : Nat, A.k.toNat = K := ⟨_, rfl⟩
  have HKK : Hid (A.k = (K : Int) ∧ 1 ≤ K ∧ K ≤ 8 ∧ A.k.toNat = K) := ⟨by omega, by omega, by omega, hK⟩
  rw [hK]
  have HGA : Hid (Good A) := GA
  have HGB : Hid (Good B) := GB
  have HKB : Hid (B.k = A.k) := hkk
  have HSS : Hid (∀ x y, sh (x, y) = g (A.ac.getD x false) (B.ac.getD y false)) := hsh
  have HCV : Hid (∀ P p, Vld dec A.ac.length B.ac.length P → p.1 < A.ac.length → p.2 < B.ac.length → dec P p = false → ∀ v, sh (wrun (dd A B) p v) = true → ∃ q ∈ P, sh (wrun (dd A B) q v) = true) := hcov
  have HLN : Hid (∀ P, Vld dec A.ac.length B.ac.length P → P.length ≤ 16777216) := hlen
  have HH : Hid (Frs fn c1 c2 A.ac.length B.ac.length dec F) := H
  have HME : Hid (∀ (V : World) (E : Nat → Prop) (gq : Nat) (rc : List Value) (P : List (Nat × Nat)) (n : Nat) (qc : List Value) (vq : Value) (wr : World) (x y by' : Nat), n ≤ 16777216 → LM F w V B0 E gq rc P n qc vq wr → (∀ b, w.heap.size ≤ b → b < w.heap.size + 4 → E b) → LB w V #[.int .i64 A.k, .slice an A.nx.length cn, .slice (some ⟨ga, oa, none⟩) A.ac.length ca] #[.int .i64 A.k, .slice bn B.nx.length dn, .slice (some ⟨gb, ob, none⟩) B.ac.length da] (.func (.func fn) #[] #[c1, c2]) (.func (.func sn) #[] #[]) → x < A.ac.length → y < B.ac.length → by' ≤ 4294967295 → Calls Try.prog 53 #[peV x y, .int .i64 by', .pointer (some ⟨w.heap.size + 2, 0, none⟩), .pointer (some ⟨w.heap.size + 4, 0, none⟩), .pointer (some ⟨w.heap.size + 3, 0, none⟩), .pointer (some ⟨w.heap.size, 0, none⟩), .pointer (some ⟨w.heap.size + 1, 0, none⟩)] wr (MeQ F dec w V B0 E gq rc P n qc x y [.int .u16 (x : Int), .int .u16 (y : Int), .int .u32 (by' : Int)] (g (A.ac.getD x false) (B.ac.getD y false)))) := fun V E gq rc P n qc vq wr x y by' h1 h2 h3 h4 h5 h6 h7 => emeet_any F dec fn sn c1 c2 g A B H w V B0 hB E gq rc P n h1 qc vq wr h2 eF eS hS an bn cn dn ca da ga oa gb ob h3 h4.1 h4.2.1 h4.2.2.1 h4.2.2.2 CA.out CB.out x y by' h5 h6 hn2 hm2 h7
  have HST : Hid (∀ z (x y c : Nat), Below B0 w z → x < A.ac.length → y < B.ac.length → (c : Int) < A.k → Calls Try.prog 54 #[.agg #[.int .i64 A.k, .slice an A.nx.length cn, .slice (some ⟨ga, oa, none⟩) A.ac.length ca], .agg #[.int .i64 A.k, .slice bn B.nx.length dn, .slice (some ⟨gb, ob, none⟩) B.ac.length da], peV x y, .int .i64 c] z fun e w' => e = .returned (peV (dN A x c) (dN B y c)) ∧ Below z.heap.size z w') := fun z x y c hz hx hy hc => by
    have := estep_any va vb A B z (hARa z hz) (hARb z hz) GA GB hkk x y c hx hy hc
    rw [ea, eb] at this
    exact this
  subst ea
  subst eb
  obtain ⟨W, hW⟩ : ∃ W, W = (((((w.alloc (.cells #[.int .i64 A.k, .slice an A.nx.length cn, .slice (some ⟨ga, oa, none⟩) A.ac.length ca] 25)).alloc (.cells #[.int .i64 A.k, .slice bn B.nx.length dn, .slice (some ⟨gb, ob, none⟩) B.ac.length da] 25)).alloc (.cells #[(.func (.func fn) #[] #[c1, c2])] 56)).alloc (.cells #[(.func (.func sn) #[] #[])] 58)).alloc (.cells #[.slice none 0 0] 74)) := ⟨_, rfl⟩
  have HWE : Hid (W = (((((w.alloc (.cells #[.int .i64 A.k, .slice an A.nx.length cn, .slice (some ⟨ga, oa, none⟩) A.ac.length ca] 25)).alloc (.cells #[.int .i64 A.k, .slice bn B.nx.length dn, .slice (some ⟨gb, ob, none⟩) B.ac.length da] 25)).alloc (.cells #[(.func (.func fn) #[] #[c1, c2])] 56)).alloc (.cells #[(.func (.func sn) #[] #[])] 58)).alloc (.cells #[.slice none 0 0] 74))) := hW
  have hWs : W.heap.size = w.heap.size + 5 := by rw [hW]; simp
  have hWb : Below w.heap.size w W := by rw [hW]; exact go_on (go_on (go_on (go_on (below_new _ _) (below_new _ _)) (below_new _ _)) (below_new _ _)) (below_new _ _)
  have HLB : Hid (LB w W #[.int .i64 A.k, .slice an A.nx.length cn, .slice (some ⟨ga, oa, none⟩) A.ac.length ca] #[.int .i64 A.k, .slice bn B.nx.length dn, .slice (some ⟨gb, ob, none⟩) B.ac.length da] (.func (.func fn) #[] #[c1, c2]) (.func (.func sn) #[] #[]) ∧ W.heap[w.heap.size + 4]? = some (.cells #[.slice none 0 0] 74 (0, 0))) := by
    have q0 := heap_alloc_last w (.cells #[.int .i64 A.k, .slice an A.nx.length cn, .slice (some ⟨ga, oa, none⟩) A.ac.length ca] 25)
    have q1 := heap_alloc_last (w.alloc (.cells #[.int .i64 A.k, .slice an A.nx.length cn, .slice (some ⟨ga, oa, none⟩) A.ac.length ca] 25)) (.cells #[.int .i64 A.k, .slice bn B.nx.length dn, .slice (some ⟨gb, ob, none⟩) B.ac.length da] 25)
    have q2 := heap_alloc_last ((w.alloc (.cells #[.int .i64 A.k, .slice an A.nx.length cn, .slice (some ⟨ga, oa, none⟩) A.ac.length ca] 25)).alloc (.cells #[.int .i64 A.k, .slice bn B.nx.length dn, .slice (some ⟨gb, ob, none⟩) B.ac.length da] 25)) (.cells #[(.func (.func fn) #[] #[c1, c2])] 56)
    have q3 := heap_alloc_last (((w.alloc (.cells #[.int .i64 A.k, .slice an A.nx.length cn, .slice (some ⟨ga, oa, none⟩) A.ac.length ca] 25)).alloc (.cells #[.int .i64 A.k, .slice bn B.nx.length dn, .slice (some ⟨gb, ob, none⟩) B.ac.length da] 25)).alloc (.cells #[(.func (.func fn) #[] #[c1, c2])] 56)) (.cells #[(.func (.func sn) #[] #[])] 58)
    have q4 := heap_alloc_last ((((w.alloc (.cells #[.int .i64 A.k, .slice an A.nx.length cn, .slice (some ⟨ga, oa, none⟩) A.ac.length ca] 25)).alloc (.cells #[.int .i64 A.k, .slice bn B.nx.length dn, .slice (some ⟨gb, ob, none⟩) B.ac.length da] 25)).alloc (.cells #[(.func (.func fn) #[] #[c1, c2])] 56)).alloc (.cells #[(.func (.func sn) #[] #[])] 58)) (.cells #[.slice none 0 0] 74)
    simp only [World.size_alloc] at q1 q2 q3 q4
    show _ ∧ _
    rw [hW]
    exact ⟨⟨((below_new _ _).block _ (by simp <;> omega)).trans (((below_new _ _).block _ (by simp <;> omega)).trans (((below_new _ _).block _ (by simp <;> omega)).trans (((below_new _ _).block _ (by simp)).trans q0))), ((below_new _ _).block _ (by simp <;> omega)).trans (((below_new _ _).block _ (by simp <;> omega)).trans (((below_new _ _).block _ (by simp)).trans q1)), ((below_new _ _).block _ (by simp <;> omega)).trans (((below_new _ _).block _ (by simp)).trans q2), ((below_new _ _).block _ (by simp)).trans q3⟩, q4⟩
  have HWS : Hid (W.heap.size = w.heap.size + 5) := hWs
  have HM0 : Hid (LM F w W B0 (fun b => w.heap.size ≤ b ∧ b < w.heap.size + 4) 0 [] [] 0 [] (.slice none 0 0) W) := by
    refine ⟨⟨O, H.keep [] O w W hF0 (fun b q => hWb.block b (H.lt [] O w b hF0 q)), fun b q => ?_⟩, fun q => absurd rfl q, fun o v q => by simp at q, fun q => ⟨[], rfl⟩, HLB.out.2, World.ownsRow_nil _ _ _ _, fun b q => by simp [Value.ownBlock] at q, by omega, fun b q => by have := q.2; omega, fun b q => rfl, Nat.le_refl _, hWb.mono hB⟩
    have := H.lt [] O w b hF0 q
    exact ⟨hO b q, fun e => by have := e.1; omega, by omega, by simp [Value.ownBlock], fun e => absurd rfl e⟩
  have HC0 : Hid (Calls Try.prog 53 #[.agg #[.int .u16 0, .int .u16 0], .int .i64 0, .pointer (some ⟨w.heap.size + 2, 0, none⟩), .pointer (some ⟨w.heap.size + 4, 0, none⟩), .pointer (some ⟨w.heap.size + 3, 0, none⟩), .pointer (some ⟨w.heap.size, 0, none⟩), .pointer (some ⟨w.heap.size + 1, 0, none⟩)] W (MeQ F dec w W B0 (fun b => w.heap.size ≤ b ∧ b < w.heap.size + 4) 0 [] [] 0 [] 0 0 [.int .u16 0, .int .u16 0, .int .u32 0] (g (A.ac.getD 0 false) (B.ac.getD 0 false)))) := HME.out W _ 0 [] [] 0 [] _ W 0 0 0 (by omega) HM0.out (fun b h1 h2 => ⟨h1, h2⟩) HLB.out.1 (by omega) (by omega) (by omega)
  clear k1 k2 l1 l2 GA GB hkk hk1 hk8 hK hsh hcov hlen H hF0 hO hARa hARb hS hW hWs hWb
  go_enter Try.func36, Try.ntmps36
  go_wp2_with fail
  rw [← HWE.out]
  refine HC0.out.mono ?_
  rintro e w1 ⟨rfl, hm⟩
  rcases hm with ⟨hd, vq, hL⟩ | ⟨hd, vq, hL⟩
  · rw [hd]
    cases hg : g (A.ac.getD 0 false) (B.ac.getD 0 false) with
    | true =>
      have HO : Hid (lsh (dd A B) K sh (0, 0) = some []) := lsh_some ⟨by simp, by rw [wrun_nil, HSS.out]; exact hg, fun v _ _ => sle_nil v⟩
      have HB1 : Hid (Below B0 w w1) := hL.below
      have HV : Hid (Vld dec A.ac.length B.ac.length [(0, 0)]) := (Vld.nil _ _ _).snoc (p := (0, 0)) hd (by show 0 < _; omega) (by show 0 < _; omega)
      clear hL hd hg
      go_wp2_with fail
      go_ret2
      exact ⟨by rw [HO.out]; rfl, fun u hu => (by rw [HO.out, Option.some.injEq] at hu; exact ⟨_, HV.out, by rw [← hu]; simp⟩), HB1.out⟩
    | false =>
      have HQ1 : Hid (∃ (Q : List (Nod (Nat × Nat))) (vq : Value), 0 ≤ Q.length ∧ LM F w W B0 (fun b => w.heap.size ≤ b ∧ b < w.heap.size + 4) 0 [] (Q.map Nod.p) Q.length (Q.flatMap (emC K)) vq w1 ∧ LI A B K sh dec Q 0 0) := by
        refine ⟨[⟨(0, 0), 0, 0, []⟩], vq, Nat.zero_le _, ?_, QI.start _ _ _ _ _ _, fun m hm => ?_, fun m hm => ?_, ?_⟩
        · have e1 : (([⟨(0, 0), 0, 0, []⟩] : List (Nod (Nat × Nat))).flatMap (emC K)) = [] ++ [.int .u16 0, .int .u16 0, .int .u32 0] := by simp [emC]
          rw [e1]
          exact hL
        · rw [List.mem_singleton.1 hm, HSS.out]; exact hg
        · rw [List.mem_singleton.1 hm]; exact ⟨by show 0 < _; omega, by show 0 < _; omega⟩
        · exact (Vld.nil _ _ _).snoc (p := (0, 0)) hd (by show 0 < _; omega) (by show 0 < _; omega)
      clear hL hd hg HC0 HM0 vq
      go_wp2_with fail
      go_loopw [12] (fun vi wr => ∃ (i : Nat) (Q : List (Nod (Nat × Nat))) (vq : Value), vi = .int .i64 i ∧ i ≤ Q.length ∧ LM F w W B0 (fun b => w.heap.size ≤ b ∧ b < w.heap.size + 4) 0 [] (Q.map Nod.p) Q.length (Q.flatMap (emC K)) vq wr ∧ LI A B K sh dec Q i 0) (fun vi _ => 16777217 - (intOf vi).toNat)
      case atStart =>
        obtain ⟨Q, vq, h1, h2, h3⟩ := HQ1.out
        exact ⟨0, Q, vq, rfl, h1, h2, h3⟩
      case round =>
        clear HQ1
        obtain ⟨i, Q, vq, rfl, hiQ, hA, hP⟩ := hrel
        have hQl : Q.length ≤ 16777216 := by
          have := HLN.out _ hP.val
          rw [List.length_map] at this
          exact this
        obtain ⟨qa, qc, rfl⟩ := own_shape hA.que
        have cq : wr.cell? ⟨w.heap.size + 4, 0, none⟩ = some (.slice qa Q.length qc) := cell_of hA.q
        have HA : Hid (LM F w W B0 (fun b => w.heap.size ≤ b ∧ b < w.heap.size + 4) 0 [] (Q.map Nod.p) Q.length (Q.flatMap (emC K)) (.slice qa Q.length qc) wr) := hA
        have HP : Hid (LI A B K sh dec Q i 0) := hP
        by_cases hlt : i < Q.length
        · have hiI : (i : Int) < Q.length := by omega
          obtain ⟨gq, rfl⟩ : ∃ gq, qa = some ⟨gq, 0, none⟩ := by
            rcases hA.que.2 with ⟨_, h0⟩ | ⟨g', cap', cur, hv, _⟩
            · omega
            · simp only [Value.slice.injEq] at hv
              exact ⟨g', hv.1⟩
          have hcap : Q.length ≤ qc := by
            rcases hA.que.2 with ⟨hv, h0⟩ | ⟨g', cap', cur, hv, _, _, hnc, _⟩
            · cases hv
            · simp only [Value.slice.injEq] at hv
              rw [hv.2.2]; exact hnc
          clear hA hP
          go_wp2_with fail
          obtain ⟨N, hN⟩ : ∃ N, Q.length - i = N := ⟨_, rfl⟩
          rw [hN]
          have HJ0 : Hid (LM F w W B0 (fun b => w.heap.size ≤ b ∧ b < w.heap.size + 4) gq (Q.flatMap (emC K)) (Q.map Nod.p) Q.length (Q.flatMap (emC K)) (.slice (some ⟨gq, 0, none⟩) Q.length qc) wr) := HA.out.mark
          clear HA cq
          go_loopw [34] (fun vj wr => ∃ (j : Nat) (Q' : List (Nod (Nat × Nat))) (vq : Value), vj = .int .i64 j ∧ j ≤ N ∧ LM F w W B0 (fun b => w.heap.size ≤ b ∧ b < w.heap.size + 4) gq (Q.flatMap (emC K)) (Q'.map Nod.p) Q'.length (Q'.flatMap (emC K)) vq wr ∧ LI A B K sh dec Q' (i + j) 0 ∧ ∃ T, Q' = Q ++ T) (fun vj _ => N - (intOf vj).toNat)
          case atStart => exact ⟨0, Q, _, rfl, Nat.zero_le _, HJ0.out, HP.out, [], by simp⟩
          case round =>
            clear HJ0 HP
            obtain ⟨j, Q', vq, rfl, hjN, hA, hP, T, hT⟩ := hrel
            by_cases hj : j < N
            · have hjI : (j : Int) < N := by omega
              obtain ⟨I, hI⟩ : ∃ I, i + j = I := ⟨_, rfl⟩
              rw [hI] at hP
              have hIQ : I < Q.length := by omega
              obtain ⟨n, hn⟩ : ∃ n, Q[I]? = some n := ⟨Q[I], List.getElem?_eq_getElem hIQ⟩
              have hn' : Q'[I]? = some n := by rw [hT, List.getElem?_append_left hIQ]; exact hn
              obtain ⟨X, hXe⟩ : ∃ X, n.p.1 = X := ⟨_, rfl⟩
              obtain ⟨Y, hYe⟩ : ∃ Y, n.p.2 = Y := ⟨_, rfl⟩
              obtain ⟨Z, hZe⟩ : ∃ Z, n.u * K + n.c = Z := ⟨_, rfl⟩
              have hoff : i * 3 + j * 3 = I * 3 := by omega
              have d0 : wr.cell? ⟨gq, I * 3, none⟩ = some (.int .u16 (X : Int)) := by
                rw [← hXe]
                exact hA.hold (I * 3) _ (by rw [show I * 3 = I * 3 + 0 from rfl, flat_get (emC_len K) Q I n 0 hn (by omega)]; rfl)
              have d1 : wr.cell? ⟨gq, I * 3 + 1, none⟩ = some (.int .u16 (Y : Int)) := by
                rw [← hYe]
                exact hA.hold (I * 3 + 1) _ (by rw [flat_get (emC_len K) Q I n 1 hn (by omega)]; rfl)
              have d2 : wr.cell? ⟨gq, I * 3 + 2, none⟩ = some (.int .u32 (Z : Int)) := by
                rw [← hZe]
                exact hA.hold (I * 3 + 2) _ (by rw [flat_get (emC_len K) Q I n 2 hn (by omega)]; rfl)
              have HXE : Hid (n.p.1 = X ∧ n.p.2 = Y) := ⟨hXe, hYe⟩
              have hXY := hP.oks n (List.mem_of_getElem? hn')
              rw [hXe, hYe] at hXY
              obtain ⟨hX, hY⟩ := hXY
              have HA : Hid (LM F w W B0 (fun b => w.heap.size ≤ b ∧ b < w.heap.size + 4) gq (Q.flatMap (emC K)) (Q'.map Nod.p) Q'.length (Q'.flatMap (emC K)) vq wr) := hA
              have HP : Hid (LI A B K sh dec Q' I 0) := hP
              have HN : Hid (Q'[I]? = some n ∧ ∃ T, Q' = Q ++ T) := ⟨hn', T, hT⟩
              have ca0 : ∀ o, wr.cell? ⟨w.heap.size, o, none⟩ = (#[.int .i64 A.k, .slice an A.nx.length cn, .slice (some ⟨ga, oa, none⟩) A.ac.length ca] : Array Value)[o]? := fun o => (World.cell?_of_block (hA.res w.heap.size ⟨Nat.le_refl _, by omega⟩)).trans (cell_of HLB.out.1.1)
              have hws0 : w.heap.size < wr.heap.size := by have := hA.sz; have := HWS.out; omega
              clear hA hP hn hn' hT hXe hYe hZe
              go_wp2_with fail
              obtain ⟨mb, hmb⟩ : ∃ mb, wr.heap.size = mb := ⟨_, rfl⟩
              obtain ⟨wm, hwm⟩ : ∃ wm, wm = wr.alloc (.cells #[.int .u16 (X : Int), .int .u16 (Y : Int), .int .u32 (Z : Int)] 80) := ⟨_, rfl⟩
              have HI0 : Hid (LIn F A B K sh dec w wm B0 (fun b => (w.heap.size ≤ b ∧ b < w.heap.size + 4) ∨ b = mb) gq Q n I 0 wm) := by
                have := LM.box HH.out hB HA.out (.cells #[.int .u16 (X : Int), .int .u16 (Y : Int), .int .u32 (Z : Int)] 80)
                rw [← hwm, hmb] at this
                exact ⟨Q', vq, this, HP.out, HN.out.1, HN.out.2⟩
              have HMB : Hid (wm.heap[mb]? = some (.cells #[.int .u16 (X : Int), .int .u16 (Y : Int), .int .u32 (Z : Int)] 80 (0, 0))) := by
                have := heap_alloc_last wr (.cells #[.int .u16 (X : Int), .int .u16 (Y : Int), .int .u32 (Z : Int)] 80)
                rw [hmb] at this
                rw [hwm]; exact this
              have HRE : Hid (∀ b, w.heap.size ≤ b ∧ b < w.heap.size + 4 → wm.heap[b]? = W.heap[b]?) := fun b hb => by
                rw [hwm]
                exact ((below_new wr _).block b (by have := HA.out.sz; have := HWS.out; omega)).trans (HA.out.res b hb)
              have HLM : Hid (LB w wm #[.int .i64 A.k, .slice an A.nx.length cn, .slice (some ⟨ga, oa, none⟩) A.ac.length ca] #[.int .i64 A.k, .slice bn B.nx.length dn, .slice (some ⟨gb, ob, none⟩) B.ac.length da] (.func (.func fn) #[] #[c1, c2]) (.func (.func sn) #[] #[])) := ⟨(HRE.out _ ⟨by omega, by omega⟩).trans HLB.out.1.1, (HRE.out _ ⟨by omega, by omega⟩).trans HLB.out.1.2.1, (HRE.out _ ⟨by omega, by omega⟩).trans HLB.out.1.2.2.1, (HRE.out _ ⟨by omega, by omega⟩).trans HLB.out.1.2.2.2⟩
              have HSM : Hid (W.heap.size ≤ wm.heap.size ∧ w.heap.size + 4 < mb) := ⟨by rw [hwm]; simp; have := HA.out.sz; omega, by have := HA.out.sz; have := HWS.out; omega⟩
              rw [← hwm]
              simp only [hmb]
              clear hwm hmb d0 d1 d2 ca0 HA HP HN hws0
              go_loopw [41] (fun vc wr => ∃ c : Nat, vc = .int .i64 c ∧ c ≤ K ∧ LIn F A B K sh dec w wm B0 (fun b => (w.heap.size ≤ b ∧ b < w.heap.size + 4) ∨ b = mb) gq Q n I c wr) (fun vc _ => K - (intOf vc).toNat)
              case atStart => exact ⟨0, rfl, Nat.zero_le _, HI0.out⟩
              case round =>
                clear HI0
                obtain ⟨c, rfl, hcK, hIn⟩ := hrel
                by_cases hc : c < K
                · have hcI : (c : Int) < A.k := by have := HKK.out.1; omega
                  have hc8 : c < 8 := by have := HKK.out.2.2.1; omega
                  obtain ⟨Q', vq, hM, hL, hn, hT⟩ := hIn
                  have hQl' : Q'.length ≤ 16777216 := by
                    have := HLN.out _ hL.val
                    rw [List.length_map] at this
                    exact this
                  have hil := (List.getElem?_eq_some_iff.1 hn).1
                  have hIK : I * K ≤ I * 8 := Nat.mul_le_mul_left _ HKK.out.2.2.1
                  have hd1 := (HGA.out.at hX hcI).2.2
                  have hd2 := (HGB.out.at hY (by rw [HKB.out]; exact hcI)).2.2
                  obtain ⟨D1, hD1⟩ : ∃ D, dN A X c = D := ⟨_, rfl⟩
                  obtain ⟨D2, hD2⟩ : ∃ D, dN B Y c = D := ⟨_, rfl⟩
                  obtain ⟨M, hMe⟩ : ∃ M, I * K = M := ⟨_, rfl⟩
                  obtain ⟨bb, hbb⟩ : ∃ bb, (dec (Q'.map Nod.p) (D1, D2) && sh (D1, D2)) = bb := ⟨_, rfl⟩
                  have HMT : Hid (∀ y, Below wr.heap.size wr y → Calls Try.prog 53 #[.agg #[.int .u16 (D1 : Int), .int .u16 (D2 : Int)], .int .i64 ((M : Int) + (c : Int)), .pointer (some ⟨w.heap.size + 2, 0, none⟩), .pointer (some ⟨w.heap.size + 4, 0, none⟩), .pointer (some ⟨w.heap.size + 3, 0, none⟩), .pointer (some ⟨w.heap.size, 0, none⟩), .pointer (some ⟨w.heap.size + 1, 0, none⟩)] y fun e y3 => e = .returned (.bool bb) ∧ (bb = false → LIn F A B K sh dec w wm B0 (fun b => (w.heap.size ≤ b ∧ b < w.heap.size + 4) ∨ b = mb) gq Q n I (c + 1) y3) ∧ (bb = true → LFd F A B K sh dec w wm B0 (fun b => (w.heap.size ≤ b ∧ b < w.heap.size + 4) ∨ b = mb) gq Q y3)) := fun y hy => by
                    have h1 := HME.out wm (fun b => (w.heap.size ≤ b ∧ b < w.heap.size + 4) ∨ b = mb) gq (Q.flatMap (emC K)) (Q'.map Nod.p) Q'.length (Q'.flatMap (emC K)) vq y D1 D2 (I * K + c) hQl' (LM.call HH.out hB hM hy) (fun b h1 h2 => .inl ⟨h1, h2⟩) HLM.out (by rw [← hD1]; exact hd1) (by rw [← hD2]; exact hd2) (by omega)
                    rw [show ((M : Int) + (c : Int)) = ((I * K + c : Nat) : Int) by rw [hMe]; omega]
                    refine Calls.mono h1 ?_
                    rintro e y3 ⟨rfl, hm⟩
                    have h3 := LIn.step (y3 := y3) (R := Q) hL hn hT hc (by rw [HXE.out.1]; exact hd1) (by rw [HXE.out.2]; exact hd2) HCV.out (by rw [HXE.out.1, HXE.out.2, hD1, hD2]; exact hm)
                    rw [HXE.out.1, HXE.out.2, hD1, hD2, hbb] at h3
                    refine ⟨?_, h3⟩
                    rw [← hbb, HSS.out]
                  have HT1 : Hid (∀ y, Below B0 w y → Calls Try.prog 54 #[.agg #[.int .i64 A.k, .slice an A.nx.length cn, .slice (some ⟨ga, oa, none⟩) A.ac.length ca], .agg #[.int .i64 A.k, .slice bn B.nx.length dn, .slice (some ⟨gb, ob, none⟩) B.ac.length da], .agg #[.int .u16 (X : Int), .int .u16 (Y : Int)], .int .i64 (c : Int)] y fun e w' => e = .returned (.agg #[.int .u16 (D1 : Int), .int .u16 (D2 : Int)]) ∧ Below y.heap.size y w') := fun y hy => by rw [← hD1, ← hD2]; exact HST.out y X Y c hy hX hY hcI
                  have hwI : IntKind.i64.wrap ((i : Int) + (j : Int)) = (I : Int) := by rw [IntKind.wrap_i64]; omega
                  have hwM : IntKind.i64.wrap ((I : Int) * A.k) = (M : Int) := by
                    have : (I : Int) * A.k = (M : Int) := by rw [HKK.out.1, ← hMe]; simp
                    rw [this, IntKind.wrap_i64]; omega
                  have hwB : IntKind.i64.wrap ((M : Int) + (c : Int)) = (M : Int) + (c : Int) := by rw [IntKind.wrap_i64]; omega
                  have KR : Hid (∀ y, (∀ b, (fun b => (w.heap.size ≤ b ∧ b < w.heap.size + 4) ∨ b = mb) b → y.heap[b]? = wm.heap[b]?) → Below B0 w y → (∀ o, y.cell? ⟨w.heap.size, o, none⟩ = (#[.int .i64 A.k, .slice an A.nx.length cn, .slice (some ⟨ga, oa, none⟩) A.ac.length ca] : Array Value)[o]?) ∧ (∀ o, y.cell? ⟨w.heap.size + 1, o, none⟩ = (#[.int .i64 A.k, .slice bn B.nx.length dn, .slice (some ⟨gb, ob, none⟩) B.ac.length da] : Array Value)[o]?) ∧ (∀ o, y.cell? ⟨mb, o, none⟩ = (#[.int .u16 (X : Int), .int .u16 (Y : Int), .int .u32 (Z : Int)] : Array Value)[o]?) ∧ Below B0 w y ∧ mb < y.heap.size) := fun y hr hb => ⟨fun o => (World.cell?_of_block (hr w.heap.size (.inl ⟨by omega, by omega⟩))).trans (cell_of HLM.out.1), fun o => (World.cell?_of_block (hr (w.heap.size + 1) (.inl ⟨by omega, by omega⟩))).trans (cell_of HLM.out.2.1), fun o => (World.cell?_of_block (hr _ (.inr rfl))).trans (cell_of HMB.out), hb, (Array.getElem?_eq_some_iff.1 ((hr _ (.inr rfl)).trans HMB.out)).1⟩
                  have KK : Hid (∀ y1 y2, Below y1.heap.size y1 y2 → ((∀ o, y1.cell? ⟨w.heap.size, o, none⟩ = (#[.int .i64 A.k, .slice an A.nx.length cn, .slice (some ⟨ga, oa, none⟩) A.ac.length ca] : Array Value)[o]?) ∧ (∀ o, y1.cell? ⟨w.heap.size + 1, o, none⟩ = (#[.int .i64 A.k, .slice bn B.nx.length dn, .slice (some ⟨gb, ob, none⟩) B.ac.length da] : Array Value)[o]?) ∧ (∀ o, y1.cell? ⟨mb, o, none⟩ = (#[.int .u16 (X : Int), .int .u16 (Y : Int), .int .u32 (Z : Int)] : Array Value)[o]?) ∧ Below B0 w y1 ∧ mb < y1.heap.size) → ((∀ o, y2.cell? ⟨w.heap.size, o, none⟩ = (#[.int .i64 A.k, .slice an A.nx.length cn, .slice (some ⟨ga, oa, none⟩) A.ac.length ca] : Array Value)[o]?) ∧ (∀ o, y2.cell? ⟨w.heap.size + 1, o, none⟩ = (#[.int .i64 A.k, .slice bn B.nx.length dn, .slice (some ⟨gb, ob, none⟩) B.ac.length da] : Array Value)[o]?) ∧ (∀ o, y2.cell? ⟨mb, o, none⟩ = (#[.int .u16 (X : Int), .int .u16 (Y : Int), .int .u32 (Z : Int)] : Array Value)[o]?) ∧ Below B0 w y2 ∧ mb < y2.heap.size)) := fun y1 y2 hy h => by
                    have h9 := HSM.out.2
                    have h8 := h.2.2.2.2
                    exact ⟨fun o => (below_cell hy (by omega)).trans (h.1 o), fun o => (below_cell hy (by omega)).trans (h.2.1 o), fun o => (below_cell hy h8).trans (h.2.2.1 o), h.2.2.2.1.trans (hy.mono (Nat.le_trans hB h.2.2.2.1.size)), Nat.lt_of_lt_of_le h8 hy.size⟩
                  have KE : Hid (∀ y3, (bb = false → LIn F A B K sh dec w wm B0 (fun b => (w.heap.size ≤ b ∧ b < w.heap.size + 4) ∨ b = mb) gq Q n I (c + 1) y3) ∧ (bb = true → LFd F A B K sh dec w wm B0 (fun b => (w.heap.size ≤ b ∧ b < w.heap.size + 4) ∨ b = mb) gq Q y3) → ((∀ o, y3.cell? ⟨w.heap.size, o, none⟩ = (#[.int .i64 A.k, .slice an A.nx.length cn, .slice (some ⟨ga, oa, none⟩) A.ac.length ca] : Array Value)[o]?) ∧ (∀ o, y3.cell? ⟨w.heap.size + 1, o, none⟩ = (#[.int .i64 A.k, .slice bn B.nx.length dn, .slice (some ⟨gb, ob, none⟩) B.ac.length da] : Array Value)[o]?) ∧ (∀ o, y3.cell? ⟨mb, o, none⟩ = (#[.int .u16 (X : Int), .int .u16 (Y : Int), .int .u32 (Z : Int)] : Array Value)[o]?) ∧ Below B0 w y3 ∧ mb < y3.heap.size)) := fun y3 h3 => by
                    cases bb with
                    | false =>
                      obtain ⟨Q9, v9, h9, _⟩ := h3.1 rfl
                      exact KR.out y3 h9.res h9.below
                    | true =>
                      obtain ⟨Q9, v9, n9, h9, _⟩ := h3.2 rfl
                      exact KR.out y3 h9.res h9.below
                  have S0 : (∀ o, wr.drew.cell? ⟨w.heap.size, o, none⟩ = (#[.int .i64 A.k, .slice an A.nx.length cn, .slice (some ⟨ga, oa, none⟩) A.ac.length ca] : Array Value)[o]?) ∧ (∀ o, wr.drew.cell? ⟨w.heap.size + 1, o, none⟩ = (#[.int .i64 A.k, .slice bn B.nx.length dn, .slice (some ⟨gb, ob, none⟩) B.ac.length da] : Array Value)[o]?) ∧ (∀ o, wr.drew.cell? ⟨mb, o, none⟩ = (#[.int .u16 (X : Int), .int .u16 (Y : Int), .int .u32 (Z : Int)] : Array Value)[o]?) ∧ Below B0 w wr.drew ∧ mb < wr.drew.heap.size := KR.out wr.drew (fun b hb => hM.res b hb) hM.below.drew
                  clear hM hL hn hT hd1 hd2 hD1 hD2 hMe hbb hIK hil hQl'
                  go_wp2_with fail
                  go_region_held3 (fun y => (∀ o, y.cell? ⟨w.heap.size, o, none⟩ = (#[.int .i64 A.k, .slice an A.nx.length cn, .slice (some ⟨ga, oa, none⟩) A.ac.length ca] : Array Value)[o]?) ∧ (∀ o, y.cell? ⟨w.heap.size + 1, o, none⟩ = (#[.int .i64 A.k, .slice bn B.nx.length dn, .slice (some ⟨gb, ob, none⟩) B.ac.length da] : Array Value)[o]?) ∧ (∀ o, y.cell? ⟨mb, o, none⟩ = (#[.int .u16 (X : Int), .int .u16 (Y : Int), .int .u32 (Z : Int)] : Array Value)[o]?) ∧ Below B0 w y ∧ mb < y.heap.size) (first | exact S0 | assumption | exact KK.out _ _ (by assumption) (by assumption)) (first
                    | (go_at_call 53; refine (HMT.out _ (go_on (Below.refl _ _).drew hy1)).mono ?_; rintro e y3 ⟨rfl, hm3⟩; have HI3 : Hid ((bb = false → LIn F A B K sh dec w wm B0 (fun b => (w.heap.size ≤ b ∧ b < w.heap.size + 4) ∨ b = mb) gq Q n I (c + 1) y3) ∧ (bb = true → LFd F A B K sh dec w wm B0 (fun b => (w.heap.size ≤ b ∧ b < w.heap.size + 4) ∨ b = mb) gq Q y3)) := hm3; have hS3 := KE.out y3 hm3; clear hm3)
                    | (go_at_call 54; refine (HT1.out _ (And.left (And.right (And.right (And.right (by assumption)))))).mono ?_; rintro e y1 ⟨rfl, hy1⟩))
                  all_goals (
                    cases bb with
                    | false =>
                      have HI4 : Hid (LIn F A B K sh dec w wm B0 (fun b => (w.heap.size ≤ b ∧ b < w.heap.size + 4) ∨ b = mb) gq Q n I (c + 1) y3) := HI3.out.1 rfl
                      go_wp2_with fail
                      go_roundw
                      case rel => exact ⟨c + 1, by go_num, by omega, HI4.out⟩
                      case measure => simp [intOf]; omega
                    | true =>
                      obtain ⟨Q9, v9, n9, hM9, hla, hup, hls, hva, hle⟩ := HI3.out.2 rfl
                      have hQ9 : Q9.length ≤ 16777216 := by
                        have := HLN.out _ hva
                        rw [List.length_map] at this
                        exact this
                      obtain ⟨a9, k9, rfl⟩ := own_shape hM9.que
                      obtain ⟨g9, rfl⟩ : ∃ g9, a9 = some ⟨g9, 0, none⟩ := by
                        rcases hM9.que.2 with ⟨_, h0⟩ | ⟨g', cap', cur, hv, _⟩
                        · omega
                        · simp only [Value.slice.injEq] at hv
                          exact ⟨g', hv.1⟩
                      have cq9 : y3.cell? ⟨w.heap.size + 4, 0, none⟩ = some (.slice (some ⟨g9, 0, none⟩) Q9.length k9) := cell_of hM9.q
                      have ca9 := hS3.1
                      have HLS : Hid (lsh (dd A B) K sh (0, 0) = some n9.w) := hls
                      have HVA : Hid (Vld dec A.ac.length B.ac.length (Q9.map Nod.p) ∧ n9.w.length < (Q9.map Nod.p).length) := ⟨hva, by rw [List.length_map]; exact hle⟩
                      have HB9 : Hid (Below B0 w y3) := hM9.below
                      have HLW : Hid (∀ z, Below y3.heap.size y3 z → Calls Try.prog 55 #[.int .i64 A.k, .slice (some ⟨g9, 0, none⟩) Q9.length k9] z fun e w' => e = .returned (.string ⟨(lB n9.w).toArray⟩) ∧ Below z.heap.size z w') := fun z hz => by
                        rw [HKK.out.1]
                        exact elast_any w.heap.size g9 k9 Q9 K HKK.out.2.1 HKK.out.2.2.1 hQ9 hup n9 hla z (own_below hM9.que hz)
                      clear hM9 hla hup hls hva hle hQ9
                      go_wp2_with fail
                      refine (HLW.out _ (by first | exact Below.refl _ _ | exact (Below.refl _ _).drew)).mono ?_
                      rintro e w9 ⟨rfl, hb9⟩
                      have HB8 : Hid (Below B0 w w9) := HB9.out.trans ((by first | exact (hb9.mono (Nat.le_trans hB HB9.out.size)) | exact ((Below.refl _ _).drew.trans hb9).mono (Nat.le_trans hB HB9.out.size)))
                      clear hb9
                      go_wp2_with fail
                      go_ret2
                      exact ⟨by rw [HLS.out]; rfl, fun u hu => (by rw [HLS.out, Option.some.injEq] at hu; exact ⟨_, HVA.out.1, by rw [← hu]; exact HVA.out.2⟩), HB8.out⟩)
                · have hcI : ¬ (c : Int) < A.k := by have := HKK.out.1; omega
                  have hcE : c = K := by omega
                  obtain ⟨Q', vq, hM, hL, hn, hT⟩ := hIn
                  have HEN : Hid (∃ (Q' : List (Nod (Nat × Nat))) (vq : Value), LM F w W B0 (fun b => w.heap.size ≤ b ∧ b < w.heap.size + 4) gq (Q.flatMap (emC K)) (Q'.map Nod.p) Q'.length (Q'.flatMap (emC K)) vq wr ∧ LI A B K sh dec Q' (i + (j + 1)) 0 ∧ ∃ T, Q' = Q ++ T) := by
                    refine ⟨Q', vq, hM.less (fun b hb => .inl hb) (fun b hb => by have := HWS.out; have := hb.2; omega) HRE.out HSM.out.1, ?_, hT⟩
                    rw [hcE] at hL
                    rw [show i + (j + 1) = I + 1 by omega]
                    exact ⟨hL.qi.next, hL.nsh, hL.oks, hL.val⟩
                  clear hM hL hn hT hcE
                  go_wp2_with fail
                  go_roundw
                  case rel =>
                    obtain ⟨Q9, v9, h1, h2, h3⟩ := HEN.out
                    exact ⟨j + 1, Q9, v9, by go_num, by omega, h1, h2, h3⟩
                  case measure => simp [intOf]; omega
            · have hjI : ¬ (j : Int) < N := by omega
              have hjE : j = N := by omega
              have HEN : Hid (∃ (Q : List (Nod (Nat × Nat))) (vq : Value), i + N ≤ Q.length ∧ LM F w W B0 (fun b => w.heap.size ≤ b ∧ b < w.heap.size + 4) 0 [] (Q.map Nod.p) Q.length (Q.flatMap (emC K)) vq wr ∧ LI A B K sh dec Q (i + N) 0) := by
                rw [hjE] at hP
                refine ⟨Q', vq, ?_, hA.unmark, hP⟩
                rw [hT, List.length_append]
                omega
              clear hA hP hT
              go_wp2_with fail
              go_roundw
              case rel =>
                obtain ⟨Q9, v9, h1, h2, h3⟩ := HEN.out
                exact ⟨i + N, Q9, v9, by go_num, h1, h2, h3⟩
              case measure => simp [intOf]; omega
        · have hiI : ¬ (i : Int) < Q.length := by omega
          have HO : Hid (lsh (dd A B) K sh (0, 0) = none) := lsh_none (HP.out.qi.none (by omega) HP.out.nsh)
          have HB1 : Hid (Below B0 w wr) := hA.below
          clear hA hP
          go_wp2_with fail
          go_ret2
          exact ⟨by rw [HO.out]; rfl, fun u hu => (by rw [HO.out] at hu; cases hu), HB1.out⟩
  · rw [hd]
    have HO : Hid (lsh (dd A B) K sh (0, 0) = none) := lsh_none (fun v _ => by
      cases q : sh (wrun (dd A B) (0, 0) v) with
      | false => rfl
      | true =>
        obtain ⟨p, hp, _⟩ := HCV.out [] (0, 0) (Vld.nil _ _ _) (by show 0 < _; omega) (by show 0 < _; omega) hd v q
        simp at hp)
    have HB1 : Hid (Below B0 w w1) := hL.below
    have cq : w1.cell? ⟨w.heap.size + 4, 0, none⟩ = some vq := cell_of hL.q
    obtain ⟨qa, qc, rfl⟩ := own_shape hL.que
    clear hL hd
    go_wp2_with fail
    go_loopw [12] (fun vi wr => vi = .int .i64 0 ∧ wr = w1) (fun vi _ => 0)
    case atStart => exact ⟨rfl, rfl⟩
    case round =>
      obtain ⟨rfl, rfl⟩ := hrel
      go_wp2_with fail
      go_ret2
      exact ⟨by rw [HO.out]; rfl, fun u hu => (by rw [HO.out] at hu; cases hu), HB1.out⟩
end Go.Proofs.Ytggheiblgghpkaa

namespace Go.Proofs.Ytggheiblgghpkaa
open Go Go.RowKit Go.Lib Go.Maps
set_option linter.unusedVariables false
attribute [-instance] instBEqProd

theorem FP.frs (ab g tb jb xb n m : Nat) (hn : n ≤ 4096) (hm : m ≤ 4096) (k an : Value) (sa : Option Addr) (sc : Nat) : Frs 57 (.pointer (some ⟨jb, 0, none⟩)) (.pointer (some ⟨xb, 0, none⟩)) n m (dP n) (fun P O w => FP ab g tb jb xb (n + m) n #[k, an, .slice sa n sc] P O w) := by
  refine ⟨fun P O w w' h hk => ?_, fun P O w b h hb => ?_, fun P O w x y h hx hy => ?_⟩
  · obtain ⟨f, e, U, hX, rfl⟩ := h
    exact ⟨f, e, U, hX.keep hk, rfl⟩
  · obtain ⟨f, e, U, hX, rfl⟩ := h
    exact hX.lt hb
  · exact parted1_any ab g tb jb xb n m hn hm k an k k k 0 sa sc P O w h x y hx hy
def dU (P : List (Nat × Nat)) (p : Nat × Nat) : Bool := decide (p ∉ P)
theorem FU.frs (mb mo tb n m : Nat) (hn : n ≤ 4096) (hm : m ≤ 4096) : Frs 58 (.pointer (some ⟨mb, 0, none⟩)) (.pointer (some ⟨tb, 0, none⟩)) n m dU (fun P O w => FU mb mo tb P O w) := by
  refine ⟨fun P O w w' h hk => ?_, fun P O w b h hb => ?_, fun P O w x y h hx hy => ?_⟩
  · obtain ⟨C, T, D, vt, hU, hX, rfl⟩ := h
    exact ⟨C, T, D, vt, hU, hX.keep hk, rfl⟩
  · obtain ⟨C, T, D, vt, hU, hX, rfl⟩ := h
    rcases hb with rfl | rfl | rfl | q
    · exact (Array.getElem?_eq_some_iff.1 hX.m).1
    · exact hX.mp.lt
    · exact (Array.getElem?_eq_some_iff.1 hX.t).1
    · exact (hX.row.lt b q).2
  · exact unmet1_any mb mo tb P O w h x y (by omega) (by omega)

/-- Is a word accepted from a state of the one or, behind its n states, of the other? -/
def acE (A B : Aut) (z : Nat) (v : List Nat) : Bool := if z < A.ac.length then acW A z v else acW B (z - A.ac.length) v
theorem vld_parted {A B : Aut} {P : List (Nat × Nat)} (h : Vld (dP A.ac.length) A.ac.length B.ac.length P) : ∀ k, k ≤ P.length → ∃ f e Q, UF (A.ac.length + B.ac.length) f (rP A.ac.length (P.take k)) e ∧ Q.map Nod.p = P.take k ∧ UC (acE A B) (dd A B) (sx A B) (A.ac.length + B.ac.length) (rP A.ac.length (P.take k)) Q ∧ k + rts (A.ac.length + B.ac.length) (rP A.ac.length (P.take k)) ≤ A.ac.length + B.ac.length := by
  intro k
  induction k with
  | zero =>
    intro _
    rw [List.take_zero]
    exact ⟨_, _, [], UF.id _, rfl, UC.start _ _ _ _ _, by rw [Nat.zero_add]; exact rts_le _ _⟩
  | succ k ih =>
    intro hk
    obtain ⟨f, e, Q, hu, hq, hc, hr⟩ := ih (by omega)
    obtain ⟨p, hp⟩ : ∃ p, P[k]? = some p := ⟨P[k], List.getElem?_eq_getElem (by omega)⟩
    obtain ⟨hd, h1, h2⟩ := h k p hp
    have et : P.take (k + 1) = P.take k ++ [p] := by rw [List.take_add_one, hp]; rfl
    have hne : rP A.ac.length (P.take k) p.1 ≠ rP A.ac.length (P.take k) (A.ac.length + p.2) := of_decide_eq_true hd
    obtain ⟨e', hu'⟩ := hu.link (s := p.1) (t := A.ac.length + p.2) (by omega) (by omega) hne
    have hl := rts_less hu (s := p.1) (t := A.ac.length + p.2) (by omega) (by omega) hne
    rw [et, rP_snoc]
    refine ⟨_, e', Q ++ [⟨p, 0, 0, []⟩], hu', by rw [List.map_append, hq]; rfl, hc.join (by omega) (by omega) ⟨p, 0, 0, []⟩ (fun v hv => (sx_ac A B p v).2 ?_), by omega⟩
    unfold acE at hv
    rw [if_pos h1, if_neg (by omega), Nat.add_sub_cancel_left] at hv
    exact hv
theorem parted_cov {A B : Aut} (P : List (Nat × Nat)) (p : Nat × Nat) (h : Vld (dP A.ac.length) A.ac.length B.ac.length P) (h1 : p.1 < A.ac.length) (h2 : p.2 < B.ac.length) (hd : dP A.ac.length P p = false) (v : List Nat) (hv : sx A B (wrun (dd A B) p v) = true) : ∃ q ∈ P, sx A B (wrun (dd A B) q v) = true := by
  obtain ⟨f, e, Q, hu, hq, hc, hr⟩ := vld_parted h P.length (Nat.le_refl _)
  rw [List.take_length] at hu hq hc hr
  have he : rP A.ac.length P p.1 = rP A.ac.length P (A.ac.length + p.2) := by simpa [dP] using hd
  obtain ⟨m, hm, hs⟩ := hc p.1 (A.ac.length + p.2) (by omega) (by omega) he v (by
    unfold acE
    rw [if_pos h1, if_neg (by omega), Nat.add_sub_cancel_left]
    exact (sx_ac A B p v).1 hv)
  exact ⟨m.p, by rw [← hq]; exact List.mem_map_of_mem hm, hs⟩
theorem parted_len {A B : Aut} (P : List (Nat × Nat)) (h : Vld (dP A.ac.length) A.ac.length B.ac.length P) (hn : 1 ≤ A.ac.length) : P.length < A.ac.length + B.ac.length := by
  obtain ⟨f, e, Q, hu, hq, hc, hr⟩ := vld_parted h P.length (Nat.le_refl _)
  rw [List.take_length] at hu hr
  have := rts_pos hu (s := 0) (by omega)
  omega
theorem unmet_cov {A B : Aut} {sh : Nat × Nat → Bool} {n m : Nat} (P : List (Nat × Nat)) (p : Nat × Nat) (h : Vld dU n m P) (h1 : p.1 < n) (h2 : p.2 < m) (hd : dU P p = false) (v : List Nat) (hv : sh (wrun (dd A B) p v) = true) : ∃ q ∈ P, sh (wrun (dd A B) q v) = true := ⟨p, by simpa [dU] using hd, hv⟩
theorem vld_nodup {n m : Nat} {P : List (Nat × Nat)} (h : Vld dU n m P) : ∀ k, k ≤ P.length → (P.take k).Nodup := by
  intro k
  induction k with
  | zero => intro _; rw [List.take_zero]; exact List.nodup_nil
  | succ k ih =>
    intro hk
    obtain ⟨p, hp⟩ : ∃ p, P[k]? = some p := ⟨P[k], List.getElem?_eq_getElem (by omega)⟩
    obtain ⟨hd, h1, h2⟩ := h k p hp
    have et : P.take (k + 1) = P.take k ++ [p] := by rw [List.take_add_one, hp]; rfl
    have hn : p ∉ P.take k := of_decide_eq_true hd
    rw [et, List.nodup_append]
    refine ⟨ih (by omega), by simp, fun a ha b hb e => ?_⟩
    rw [List.mem_singleton] at hb
    rw [e, hb] at ha
    exact hn ha
theorem unmet_len {n m : Nat} (P : List (Nat × Nat)) (h : Vld dU n m P) : P.length ≤ n * m := by
  have hN := vld_nodup h P.length (Nat.le_refl _)
  rw [List.take_length] at hN
  have hb : ∀ c ∈ P, c.1 < n ∧ c.2 < m := fun c hc => by
    obtain ⟨i, hi⟩ := List.getElem?_of_mem hc
    exact (h i c hi).2
  have := nodup_small (n * m) (P.map fun c => c.1 * m + c.2) (by
    rw [List.Nodup, List.pairwise_map]
    refine List.Pairwise.imp_of_mem (fun {a b} ha hb' hne e => ?_) hN
    have h1 := (hb a ha).2
    have h2 := (hb b hb').2
    have hm : 0 < m := by omega
    have d1 : (a.1 * m + a.2) / m = a.1 := by rw [Nat.add_comm, Nat.add_mul_div_right _ _ hm, Nat.div_eq_of_lt h1, Nat.zero_add]
    have d2 : (b.1 * m + b.2) / m = b.1 := by rw [Nat.add_comm, Nat.add_mul_div_right _ _ hm, Nat.div_eq_of_lt h2, Nat.zero_add]
    have e1 : a.1 = b.1 := by rw [← d1, ← d2, e]
    rw [e1] at e
    exact hne (Prod.ext e1 (by omega))) (fun z hz => by
    obtain ⟨c, hc, rfl⟩ := List.mem_map.1 hz
    have h1 := hb c hc
    have : (c.1 + 1) * m ≤ n * m := Nat.mul_le_mul_right m h1.1
    rw [Nat.add_mul] at this
    omega)
  simpa using this

set_option maxHeartbeats 4000000 in
set_option maxRecDepth 100000 in
theorem unmet_any (w : World) :
    Calls Try.prog 39 #[] w fun e w' => ∃ mb mo tb O, e = .returned (.func (.func 58) #[] #[.pointer (some ⟨mb, 0, none⟩), .pointer (some ⟨tb, 0, none⟩)]) ∧ FU mb mo tb [] O w' ∧ (∀ b, O b → w.heap.size ≤ b) ∧ Below w.heap.size w w' := by
  have hmm := @run_makeMap Try.prog
  go_enter Try.func39, Try.ntmps39
  go_wp2_with fail
  clear hmm
  go_ret
  have hm0 := World.ownsMap_made (H := Unit) w Try.prog 77 (plainElem Try.prog 3)
  have q1 := heap_alloc_last (w.alloc (.map #[] 0)) (.cells #[.map (some w.heap.size)] 86)
  have q2 := heap_alloc_last ((w.alloc (.map #[] 0)).alloc (.cells #[.map (some w.heap.size)] 86)) (.cells #[.slice none 0 0] 87)
  simp only [World.size_alloc] at q1 q2
  refine ⟨w.heap.size + 1, w.heap.size, w.heap.size + 1 + 1, _, rfl, ⟨[], [], .map [], .slice none 0 0, UM.start, ⟨MI.empty _ _, ((below_new _ _).block _ (by simp)).trans q1, q2, ?_, World.ownsRow_nil _ _ _ _⟩, rfl⟩, fun b hb => ?_, go_on (go_on (below_new _ _) (below_new _ _)) (below_new _ _)⟩
  · exact map_keep hm0 (((below_new _ _).block _ (by simp; omega)).trans ((below_new _ _).block _ (by simp)))
  · rcases hb with rfl | rfl | rfl | q
    · omega
    · omega
    · omega
    · simp [Value.ownBlock] at q
end Go.Proofs.Ytggheiblgghpkaa

namespace Go.Proofs.Ytggheiblgghpkaa
open Go Go.RowKit Go.Lib Go.Maps
set_option linter.unusedVariables false
attribute [-instance] instBEqProd

/-- What check answers. -/
noncomputable def ckE (A B : Aut) : Int := if chkA A = 0 ∧ chkA B = 0 then (if A.k = B.k then 0 else 20) else 80
theorem ckE_cases (A B : Aut) : (Good A ∧ Good B ∧ A.k = B.k ∧ chkA A = 0 ∧ chkA B = 0 ∧ ckE A B = 0) ∨ (chkA A = 0 ∧ chkA B = 0 ∧ A.k ≠ B.k ∧ ckE A B = 20) ∨ (chkA A = 80 ∧ ckE A B = 80) ∨ (chkA A = 0 ∧ chkA B = 80 ∧ ckE A B = 80) := by
  unfold ckE
  rcases chkA_cases A with ⟨G, hc⟩ | ⟨G, hc⟩
  · rcases chkA_cases B with ⟨G', hc'⟩ | ⟨G', hc'⟩
    · by_cases q : A.k = B.k
      · exact .inl ⟨G, G', q, hc, hc', by rw [if_pos ⟨hc, hc'⟩, if_pos q]⟩
      · exact .inr (.inl ⟨hc, hc', q, by rw [if_pos ⟨hc, hc'⟩, if_neg q]⟩)
    · exact .inr (.inr (.inr ⟨hc, hc', by rw [if_neg (fun e => by rw [hc'] at e; exact absurd e.2 (by decide))]⟩))
  · exact .inr (.inr (.inl ⟨hc, by rw [if_neg (fun e => by rw [hc] at e; exact absurd e.1 (by decide))]⟩))
set_option maxHeartbeats 4000000 in
set_option maxRecDepth 100000 in
theorem echeck_any (va vb : Value) (A B : Aut) (w : World) (ha : AR w va A) (hb : AR w vb B) (hm : A.nx.length ≤ 9223372036854775806) (hm2 : A.ac.length ≤ 9223372036854775806) (hm3 : B.nx.length ≤ 9223372036854775806) (hm4 : B.ac.length ≤ 9223372036854775806) :
    Calls Try.prog 35 #[va, vb] w fun e w' => e = .returned (.int .i64 (ckE A B)) ∧ Below w.heap.size w w' := by
  obtain ⟨an, cn, aa, ca, e1, _, _⟩ := ha.is
  obtain ⟨bn, dn, ba, da, e2, _, _⟩ := hb.is
  have HA : Hid (∀ y, Below w.heap.size w y → Calls Try.prog 46 #[va] y fun e w' => e = .returned (.int .i64 (chkA A)) ∧ Below y.heap.size y w') := fun y hy => acheck_any va A y (ha.stay hy) hm hm2
  have HB : Hid (∀ y, Below w.heap.size w y → Calls Try.prog 46 #[vb] y fun e w' => e = .returned (.int .i64 (chkA B)) ∧ Below y.heap.size y w') := fun y hy => acheck_any vb B y (hb.stay hy) hm3 hm4
  subst e1
  subst e2
  obtain ⟨V, hV⟩ : ∃ V, V = (w.alloc (.cells #[.int .i64 A.k, .slice an A.nx.length cn, .slice aa A.ac.length ca] 25)).alloc (.cells #[.int .i64 B.k, .slice bn B.nx.length dn, .slice ba B.ac.length da] 25) := ⟨_, rfl⟩
  have HVE : Hid (V = (w.alloc (.cells #[.int .i64 A.k, .slice an A.nx.length cn, .slice aa A.ac.length ca] 25)).alloc (.cells #[.int .i64 B.k, .slice bn B.nx.length dn, .slice ba B.ac.length da] 25)) := hV
  have HBV : Hid (Below w.heap.size w V) := by show Below _ _ _; rw [hV]; exact go_on (below_new _ _) (below_new _ _)
  have HR1 : Hid (RowAt V w.heap.size #[.int .i64 A.k, .slice an A.nx.length cn, .slice aa A.ac.length ca]) := by show RowAt _ _ _; rw [hV]; exact (RowAt.last _ _ _).alloc _
  have HR2 : Hid (RowAt V (w.heap.size + 1) #[.int .i64 B.k, .slice bn B.nx.length dn, .slice ba B.ac.length da]) := by
    have := RowAt.last (w.alloc (.cells #[.int .i64 A.k, .slice an A.nx.length cn, .slice aa A.ac.length ca] 25)) #[.int .i64 B.k, .slice bn B.nx.length dn, .slice ba B.ac.length da] 25
    rw [World.size_alloc] at this
    show RowAt _ _ _; rw [hV]; exact this
  clear ha hb hV
  go_enter Try.func35, Try.ntmps35
  go_wp2_with fail
  rw [← HVE.out]
  refine (HA.out V HBV.out).mono ?_
  rintro e w1 ⟨rfl, hb1⟩
  have HB1 : Hid (Below w.heap.size w w1) := go_on HBV.out hb1
  have HR3 : Hid (RowAt w1 w.heap.size #[.int .i64 A.k, .slice an A.nx.length cn, .slice aa A.ac.length ca]) := HR1.out.stay hb1
  have HR4 : Hid (RowAt w1 (w.heap.size + 1) #[.int .i64 B.k, .slice bn B.nx.length dn, .slice ba B.ac.length da]) := HR2.out.stay hb1
  have cs := HR4.out.cell
  clear hb1
  rcases ckE_cases A B with ⟨_, _, hk, h1, h2, h3⟩ | ⟨h1, h2, hk, h3⟩ | ⟨h1, h3⟩ | ⟨h1, h2, h3⟩
  · have HE : Hid (ckE A B = _) := h3
    rw [h1]
    clear h1 h3
    rw [h2] at HB
    go_wp2_with fail
    refine (HB.out w1 HB1.out).mono ?_
    rintro e w2 ⟨rfl, hb2⟩
    have HB2 : Hid (Below w.heap.size w w2) := go_on HB1.out hb2
    have c1 := (HR3.out.stay hb2).cell
    have c2 := (HR4.out.stay hb2).cell
    clear hb2 cs
    go_wp2_with fail
    go_ret
    exact ⟨by rw [HE.out]; rfl, HB2.out⟩
  · have HE : Hid (ckE A B = _) := h3
    rw [h1]
    clear h1 h3
    rw [h2] at HB
    go_wp2_with fail
    refine (HB.out w1 HB1.out).mono ?_
    rintro e w2 ⟨rfl, hb2⟩
    have HB2 : Hid (Below w.heap.size w w2) := go_on HB1.out hb2
    have c1 := (HR3.out.stay hb2).cell
    have c2 := (HR4.out.stay hb2).cell
    have hd : decide (A.k = B.k) = false := decide_eq_false hk
    have hbn : (A.k != B.k) = true := by simpa using hk
    clear hb2 cs
    go_wp2_with fail
    go_ret
    exact ⟨by rw [HE.out]; rfl, HB2.out⟩
  · have HE : Hid (ckE A B = _) := h3
    rw [h1]
    clear h1 h3
    go_wp2_with fail
    go_ret
    exact ⟨by rw [HE.out]; rfl, HB1.out⟩
  · have HE : Hid (ckE A B = _) := h3
    rw [h1]
    clear h1 h3
    rw [h2] at HB
    go_wp2_with fail
    refine (HB.out w1 HB1.out).mono ?_
    rintro e w2 ⟨rfl, hb2⟩
    have HB2 : Hid (Below w.heap.size w w2) := go_on HB1.out hb2
    clear hb2 cs
    go_wp2_with fail
    go_ret
    exact ⟨by rw [HE.out]; rfl, HB2.out⟩

/-- Of the first alone; of both. -/
def se (A B : Aut) (p : Nat × Nat) : Bool := aN A p.1 && !aN B p.2
def sm (A B : Aut) (p : Nat × Nat) : Bool := aN A p.1 && aN B p.2
theorem differ1_any (p q : Bool) (w : World) : Calls Try.prog 38 #[.bool p, .bool q] w fun e w' => e = .returned (.bool (p != q)) ∧ w' = w := by
  cases p <;> cases q <;> (go_enter Try.func38, Try.ntmps38; go_wp2_with fail; go_ret; exact ⟨rfl, rfl⟩)
theorem escape1_any (p q : Bool) (w : World) : Calls Try.prog 40 #[.bool p, .bool q] w fun e w' => e = .returned (.bool (p && !q)) ∧ w' = w := by
  cases p <;> cases q <;> (go_enter Try.func40, Try.ntmps40; go_wp2_with fail; go_ret; exact ⟨rfl, rfl⟩)
theorem meet1_any (p q : Bool) (w : World) : Calls Try.prog 41 #[.bool p, .bool q] w fun e w' => e = .returned (.bool (p && q)) ∧ w' = w := by
  cases p <;> cases q <;> (go_enter Try.func41, Try.ntmps41; go_wp2_with fail; go_ret; exact ⟨rfl, rfl⟩)
/-- What Differ, Escape and Meet answer, by what shows it. -/
noncomputable def eqO (A B : Aut) (sh : Nat × Nat → Bool) : Option (List Nat) := if ckE A B = 0 then lsh (dd A B) A.k.toNat sh (0, 0) else none
def EqQ (A B : Aut) (sh : Nat × Nat → Bool) (N : Nat) (w : World) (e : Ending) (w' : World) : Prop := e = .returned (.tuple #[.string (apS (eqO A B sh)), .bool (apF (eqO A B sh)), .int .i64 (ckE A B)]) ∧ (∀ u, eqO A B sh = some u → u.length + 1 < N) ∧ Below w.heap.size w w'

set_option maxHeartbeats 4000000 in
set_option maxRecDepth 100000 in
theorem edf_any (va vb : Value) (A B : Aut) (w : World) (ha : AR w va A) (hb : AR w vb B) (hm : A.nx.length ≤ 9223372036854775806) (hm2 : A.ac.length ≤ 9223372036854775806) (hm3 : B.nx.length ≤ 9223372036854775806) (hm4 : B.ac.length ≤ 9223372036854775806) :
    Calls Try.prog 17 #[va, vb] w (EqQ A B (sx A B) (A.ac.length + B.ac.length) w) := by
  have HARa : Hid (∀ y, Below w.heap.size w y → AR y va A) := fun y hy => ha.stay hy
  have HARb : Hid (∀ y, Below w.heap.size w y → AR y vb B) := fun y hy => hb.stay hy
  have HCK : Hid (∀ y, Below w.heap.size w y → Calls Try.prog 35 #[va, vb] y fun e w' => e = .returned (.int .i64 (ckE A B)) ∧ Below y.heap.size y w') := fun y hy => echeck_any va vb A B y (ha.stay hy) (hb.stay hy) hm hm2 hm3 hm4
  obtain ⟨an, cn, aa, ca, e1, _, _⟩ := ha.is
  obtain ⟨bn, dn, ba, da, e2, _, _⟩ := hb.is
  obtain ⟨V, hV⟩ : ∃ V, V = (w.alloc (.cells #[.int .i64 A.k, .slice an A.nx.length cn, .slice aa A.ac.length ca] 25)).alloc (.cells #[.int .i64 B.k, .slice bn B.nx.length dn, .slice ba B.ac.length da] 25) := ⟨_, rfl⟩
  have HVE : Hid (V = (w.alloc (.cells #[.int .i64 A.k, .slice an A.nx.length cn, .slice aa A.ac.length ca] 25)).alloc (.cells #[.int .i64 B.k, .slice bn B.nx.length dn, .slice ba B.ac.length da] 25)) := hV
  have HBV : Hid (Below w.heap.size w V) := by show Below _ _ _; rw [hV]; exact go_on (below_new _ _) (below_new _ _)
  have HR1 : Hid (RowAt V w.heap.size #[.int .i64 A.k, .slice an A.nx.length cn, .slice aa A.ac.length ca]) := by show RowAt _ _ _; rw [hV]; exact (RowAt.last _ _ _).alloc _
  have HR2 : Hid (RowAt V (w.heap.size + 1) #[.int .i64 B.k, .slice bn B.nx.length dn, .slice ba B.ac.length da]) := by
    have := RowAt.last (w.alloc (.cells #[.int .i64 A.k, .slice an A.nx.length cn, .slice aa A.ac.length ca] 25)) #[.int .i64 B.k, .slice bn B.nx.length dn, .slice ba B.ac.length da] 25
    rw [World.size_alloc] at this
    show RowAt _ _ _; rw [hV]; exact this
  have HVS : Hid (V.heap.size = w.heap.size + 2) := by show _ = _; rw [hV]; simp
  subst e1
  subst e2
  clear ha hb hV
  go_enter Try.func17, Try.ntmps17
  go_wp2_with fail
  rw [← HVE.out]
  refine (HCK.out V HBV.out).mono ?_
  rintro e w1 ⟨rfl, hb1⟩
  have HB1 : Hid (Below w.heap.size w w1) := go_on HBV.out hb1
  have cs1 := (HR1.out.stay hb1).cell
  have cs2 := (HR2.out.stay hb1).cell
  have HS1 : Hid ((∀ o, w1.cell? ⟨w.heap.size, o, none⟩ = (#[.int .i64 A.k, .slice an A.nx.length cn, .slice aa A.ac.length ca] : Array Value)[o]?) ∧ (∀ o, w1.cell? ⟨w.heap.size + 1, o, none⟩ = (#[.int .i64 B.k, .slice bn B.nx.length dn, .slice ba B.ac.length da] : Array Value)[o]?)) := ⟨cs1, cs2⟩
  have hl0 : w.heap.size + 2 ≤ w1.heap.size := by have := hb1.size; have := HVS.out; omega
  have hl1 : w.heap.size < w1.heap.size := by omega
  have hl2 : w.heap.size + 1 < w1.heap.size := by omega
  clear hb1 HCK hl0
  have hcs : (Good A ∧ Good B ∧ A.k = B.k ∧ ckE A B = 0) ∨ (ckE A B = 20 ∨ ckE A B = 80) := by
    rcases ckE_cases A B with ⟨g1, g2, hk, _, _, h3⟩ | ⟨_, _, _, h3⟩ | ⟨_, h3⟩ | ⟨_, _, h3⟩
    · exact .inl ⟨g1, g2, hk, h3⟩
    · exact .inr (.inl h3)
    · exact .inr (.inr h3)
    · exact .inr (.inr h3)
  rcases hcs with ⟨g1, g2, hk, h3⟩ | h3
  · have HE : Hid (ckE A B = 0) := h3
    have HG : Hid (Good A ∧ Good B ∧ A.k = B.k) := ⟨g1, g2, hk⟩
    have hn1 := g1.n1
    have hn2 := g1.n2
    have hm2' := g2.n2
    rw [h3]
    clear g1 g2 hk h3
    go_wp2_with fail
    have HBW : Hid (Below w1.heap.size w1 w1.drew) := (Below.refl _ _).drew
    have HPT : Hid (Calls Try.prog 37 #[(.agg #[.int .i64 A.k, .slice an A.nx.length cn, .slice aa A.ac.length ca]), (.agg #[.int .i64 B.k, .slice bn B.nx.length dn, .slice ba B.ac.length da])] w1.drew fun e y1 => ∃ fv, e = .returned fv ∧ Calls Try.prog 36 #[(.agg #[.int .i64 A.k, .slice an A.nx.length cn, .slice aa A.ac.length ca]), (.agg #[.int .i64 B.k, .slice bn B.nx.length dn, .slice ba B.ac.length da]), fv, .func (.func 38) #[] #[]] y1 (fun e w' => e = .returned (.tuple #[.string (apS (lsh (dd A B) A.k.toNat (sx A B) (0, 0))), .bool (apF (lsh (dd A B) A.k.toNat (sx A B) (0, 0)))]) ∧ (∀ u, lsh (dd A B) A.k.toNat (sx A B) (0, 0) = some u → u.length + 1 < (A.ac.length + B.ac.length)) ∧ Below w1.heap.size w1 w') ∧ Below w1.drew.heap.size w1.drew y1) := by
      refine (parted_any _ _ A B w1.drew (HARa.out _ (go_on HB1.out HBW.out)) (HARb.out _ (go_on HB1.out HBW.out)) hn2 hm2').mono ?_
      rintro e w2 ⟨ab, g, tb, jb, xb, O, k, an', sa, sc, rfl, hF, hO, hb2⟩
      refine ⟨_, rfl, ?_, hb2⟩
      have hbb : Below w1.heap.size w1 w2 := go_on HBW.out hb2
      refine Calls.mono (least_any (fun P O w => FP ab g tb jb xb (A.ac.length + B.ac.length) A.ac.length #[k, an', .slice sa A.ac.length sc] P O w) (dP A.ac.length) 57 38 _ _ (fun p q => p != q) A B (FP.frs ab g tb jb xb A.ac.length B.ac.length hn2 hm2' k an' sa sc) w2 w1.heap.size hb2.size O hF hO _ _ (fun z hz => HARa.out z (HB1.out.trans ((hbb.trans hz).mono HB1.out.size))) (fun z hz => HARb.out z (HB1.out.trans ((hbb.trans hz).mono HB1.out.size))) HG.out.1 HG.out.2.1 HG.out.2.2.symm (fun _ _ => rfl) (fun _ _ => rfl) differ1_any (sx A B) (fun _ _ => rfl) (fun P p h1 h2 h3 h4 => parted_cov P p h1 h2 h3 h4) (fun P h => by have := parted_len P h hn1; omega)) ?_
      rintro e w3 ⟨rfl, hu3, hb3⟩
      refine ⟨rfl, fun u hu => ?_, hbb.trans hb3⟩
      obtain ⟨P, hP, hl⟩ := hu3 u hu
      have := parted_len P hP hn1
      omega
    have KK : Hid (∀ y, Below w1.heap.size w1 y → (∀ o, y.cell? ⟨w.heap.size, o, none⟩ = (#[.int .i64 A.k, .slice an A.nx.length cn, .slice aa A.ac.length ca] : Array Value)[o]?) ∧ (∀ o, y.cell? ⟨w.heap.size + 1, o, none⟩ = (#[.int .i64 B.k, .slice bn B.nx.length dn, .slice ba B.ac.length da] : Array Value)[o]?) ∧ Below w1.heap.size w1 y) := fun y hy => ⟨fun o => (below_cell hy hl1).trans (HS1.out.1 o), fun o => (below_cell hy hl2).trans (HS1.out.2 o), hy⟩
    have S0 : (∀ o, w1.drew.cell? ⟨w.heap.size, o, none⟩ = (#[.int .i64 A.k, .slice an A.nx.length cn, .slice aa A.ac.length ca] : Array Value)[o]?) ∧ (∀ o, w1.drew.cell? ⟨w.heap.size + 1, o, none⟩ = (#[.int .i64 B.k, .slice bn B.nx.length dn, .slice ba B.ac.length da] : Array Value)[o]?) ∧ Below w1.heap.size w1 w1.drew := KK.out w1.drew HBW.out
    clear cs1 cs2
    go_region_held3 (fun y => (∀ o, y.cell? ⟨w.heap.size, o, none⟩ = (#[.int .i64 A.k, .slice an A.nx.length cn, .slice aa A.ac.length ca] : Array Value)[o]?) ∧ (∀ o, y.cell? ⟨w.heap.size + 1, o, none⟩ = (#[.int .i64 B.k, .slice bn B.nx.length dn, .slice ba B.ac.length da] : Array Value)[o]?) ∧ Below w1.heap.size w1 y) (first | exact S0 | assumption | exact KK.out _ (by assumption) | exact KK.out _ (go_on HBW.out (by assumption))) (first
      | (go_at_call 36; refine HLS.out.mono ?_; rintro e y3 ⟨rfl, hu3, hb3⟩; have HU3 : Hid (∀ u, lsh (dd A B) A.k.toNat (sx A B) (0, 0) = some u → u.length + 1 < (A.ac.length + B.ac.length)) := hu3; have HB3 : Hid (Below w.heap.size w y3) := (HB1.out.trans (hb3.mono HB1.out.size)); clear hu3)
      | (go_at_call 37; refine HPT.out.mono ?_; rintro e y1 ⟨fv, rfl, hls, hy1⟩; have HLS : Hid (Calls Try.prog 36 #[(.agg #[.int .i64 A.k, .slice an A.nx.length cn, .slice aa A.ac.length ca]), (.agg #[.int .i64 B.k, .slice bn B.nx.length dn, .slice ba B.ac.length da]), fv, .func (.func 38) #[] #[]] y1 (fun e w' => e = .returned (.tuple #[.string (apS (lsh (dd A B) A.k.toNat (sx A B) (0, 0))), .bool (apF (lsh (dd A B) A.k.toNat (sx A B) (0, 0)))]) ∧ (∀ u, lsh (dd A B) A.k.toNat (sx A B) (0, 0) = some u → u.length + 1 < (A.ac.length + B.ac.length)) ∧ Below w1.heap.size w1 w')) := hls; clear hls))
    all_goals (
      clear S0
      go_wp2_with fail
      go_ret3
      have hO : eqO A B (sx A B) = lsh (dd A B) A.k.toNat (sx A B) (0, 0) := by unfold eqO; rw [if_pos HE.out]
      refine ⟨by rw [hO, HE.out]; rfl, fun u hu => ?_, HB3.out⟩
      rw [hO] at hu
      exact HU3.out u hu)
  · have HE : Hid (ckE A B = 20 ∨ ckE A B = 80) := h3
    have HO : Hid (eqO A B (sx A B) = none) := by
      show _ = _
      unfold eqO
      rw [if_neg (by rcases h3 with q | q <;> rw [q] <;> decide)]
    obtain ⟨c, hc⟩ : ∃ c, ckE A B = c := ⟨_, rfl⟩
    rw [hc]
    have HC : Hid (ckE A B = c) := hc
    rw [hc] at h3
    have hc0 : ¬ c = 0 := by omega
    have hd : decide (c = 0) = false := decide_eq_false hc0
    have hbn : (c != 0) = true := by simpa using hc0
    clear h3 hc HE
    go_wp2_with fail
    go_ret3
    exact ⟨by rw [HO.out, HC.out]; rfl, fun u hu => (by rw [HO.out] at hu; cases hu), HB1.out⟩

set_option maxHeartbeats 4000000 in
set_option maxRecDepth 100000 in
theorem ees_any (va vb : Value) (A B : Aut) (w : World) (ha : AR w va A) (hb : AR w vb B) (hm : A.nx.length ≤ 9223372036854775806) (hm2 : A.ac.length ≤ 9223372036854775806) (hm3 : B.nx.length ≤ 9223372036854775806) (hm4 : B.ac.length ≤ 9223372036854775806) :
    Calls Try.prog 19 #[va, vb] w (EqQ A B (se A B) (A.ac.length * B.ac.length + 1) w) := by
  have HARa : Hid (∀ y, Below w.heap.size w y → AR y va A) := fun y hy => ha.stay hy
  have HARb : Hid (∀ y, Below w.heap.size w y → AR y vb B) := fun y hy => hb.stay hy
  have HCK : Hid (∀ y, Below w.heap.size w y → Calls Try.prog 35 #[va, vb] y fun e w' => e = .returned (.int .i64 (ckE A B)) ∧ Below y.heap.size y w') := fun y hy => echeck_any va vb A B y (ha.stay hy) (hb.stay hy) hm hm2 hm3 hm4
  obtain ⟨an, cn, aa, ca, e1, _, _⟩ := ha.is
  obtain ⟨bn, dn, ba, da, e2, _, _⟩ := hb.is
  obtain ⟨V, hV⟩ : ∃ V, V = (w.alloc (.cells #[.int .i64 A.k, .slice an A.nx.length cn, .slice aa A.ac.length ca] 25)).alloc (.cells #[.int .i64 B.k, .slice bn B.nx.length dn, .slice ba B.ac.length da] 25) := ⟨_, rfl⟩
  have HVE : Hid (V = (w.alloc (.cells #[.int .i64 A.k, .slice an A.nx.length cn, .slice aa A.ac.length ca] 25)).alloc (.cells #[.int .i64 B.k, .slice bn B.nx.length dn, .slice ba B.ac.length da] 25)) := hV
  have HBV : Hid (Below w.heap.size w V) := by show Below _ _ _; rw [hV]; exact go_on (below_new _ _) (below_new _ _)
  have HR1 : Hid (RowAt V w.heap.size #[.int .i64 A.k, .slice an A.nx.length cn, .slice aa A.ac.length ca]) := by show RowAt _ _ _; rw [hV]; exact (RowAt.last _ _ _).alloc _
  have HR2 : Hid (RowAt V (w.heap.size + 1) #[.int .i64 B.k, .slice bn B.nx.length dn, .slice ba B.ac.length da]) := by
    have := RowAt.last (w.alloc (.cells #[.int .i64 A.k, .slice an A.nx.length cn, .slice aa A.ac.length ca] 25)) #[.int .i64 B.k, .slice bn B.nx.length dn, .slice ba B.ac.length da] 25
    rw [World.size_alloc] at this
    show RowAt _ _ _; rw [hV]; exact this
  have HVS : Hid (V.heap.size = w.heap.size + 2) := by show _ = _; rw [hV]; simp
  subst e1
  subst e2
  clear ha hb hV
  go_enter Try.func19, Try.ntmps19
  go_wp2_with fail
  rw [← HVE.out]
  refine (HCK.out V HBV.out).mono ?_
  rintro e w1 ⟨rfl, hb1⟩
  have HB1 : Hid (Below w.heap.size w w1) := go_on HBV.out hb1
  have cs1 := (HR1.out.stay hb1).cell
  have cs2 := (HR2.out.stay hb1).cell
  have HS1 : Hid ((∀ o, w1.cell? ⟨w.heap.size, o, none⟩ = (#[.int .i64 A.k, .slice an A.nx.length cn, .slice aa A.ac.length ca] : Array Value)[o]?) ∧ (∀ o, w1.cell? ⟨w.heap.size + 1, o, none⟩ = (#[.int .i64 B.k, .slice bn B.nx.length dn, .slice ba B.ac.length da] : Array Value)[o]?)) := ⟨cs1, cs2⟩
  have hl0 : w.heap.size + 2 ≤ w1.heap.size := by have := hb1.size; have := HVS.out; omega
  have hl1 : w.heap.size < w1.heap.size := by omega
  have hl2 : w.heap.size + 1 < w1.heap.size := by omega
  clear hb1 HCK hl0
  have hcs : (Good A ∧ Good B ∧ A.k = B.k ∧ ckE A B = 0) ∨ (ckE A B = 20 ∨ ckE A B = 80) := by
    rcases ckE_cases A B with ⟨g1, g2, hk, _, _, h3⟩ | ⟨_, _, _, h3⟩ | ⟨_, h3⟩ | ⟨_, _, h3⟩
    · exact .inl ⟨g1, g2, hk, h3⟩
    · exact .inr (.inl h3)
    · exact .inr (.inr h3)
    · exact .inr (.inr h3)
  rcases hcs with ⟨g1, g2, hk, h3⟩ | h3
  · have HE : Hid (ckE A B = 0) := h3
    have HG : Hid (Good A ∧ Good B ∧ A.k = B.k) := ⟨g1, g2, hk⟩
    have hn1 := g1.n1
    have hn2 := g1.n2
    have hm2' := g2.n2
    rw [h3]
    clear g1 g2 hk h3
    go_wp2_with fail
    have HBW : Hid (Below w1.heap.size w1 w1.drew) := (Below.refl _ _).drew
    have HPT : Hid (Calls Try.prog 39 #[] w1.drew fun e y1 => ∃ fv, e = .returned fv ∧ Calls Try.prog 36 #[(.agg #[.int .i64 A.k, .slice an A.nx.length cn, .slice aa A.ac.length ca]), (.agg #[.int .i64 B.k, .slice bn B.nx.length dn, .slice ba B.ac.length da]), fv, .func (.func 40) #[] #[]] y1 (fun e w' => e = .returned (.tuple #[.string (apS (lsh (dd A B) A.k.toNat (se A B) (0, 0))), .bool (apF (lsh (dd A B) A.k.toNat (se A B) (0, 0)))]) ∧ (∀ u, lsh (dd A B) A.k.toNat (se A B) (0, 0) = some u → u.length + 1 < (A.ac.length * B.ac.length + 1)) ∧ Below w1.heap.size w1 w') ∧ Below w1.drew.heap.size w1.drew y1) := by
      refine (unmet_any w1.drew).mono ?_
      rintro e w2 ⟨mb, mo, tb, O, rfl, hF, hO, hb2⟩
      refine ⟨_, rfl, ?_, hb2⟩
      have hbb : Below w1.heap.size w1 w2 := go_on HBW.out hb2
      refine Calls.mono (least_any (fun P O w => FU mb mo tb P O w) dU 58 40 _ _ (fun p q => p && !q) A B (FU.frs mb mo tb A.ac.length B.ac.length hn2 hm2') w2 w1.heap.size hb2.size O hF hO _ _ (fun z hz => HARa.out z (HB1.out.trans ((hbb.trans hz).mono HB1.out.size))) (fun z hz => HARb.out z (HB1.out.trans ((hbb.trans hz).mono HB1.out.size))) HG.out.1 HG.out.2.1 HG.out.2.2.symm (fun _ _ => rfl) (fun _ _ => rfl) escape1_any (se A B) (fun _ _ => rfl) (fun P p h1 h2 h3 h4 => unmet_cov P p h1 h2 h3 h4) (fun P h => by have := unmet_len P h; have := Nat.mul_le_mul hn2 hm2'; omega)) ?_
      rintro e w3 ⟨rfl, hu3, hb3⟩
      refine ⟨rfl, fun u hu => ?_, hbb.trans hb3⟩
      obtain ⟨P, hP, hl⟩ := hu3 u hu
      have := unmet_len P hP
      omega
    have KK : Hid (∀ y, Below w1.heap.size w1 y → (∀ o, y.cell? ⟨w.heap.size, o, none⟩ = (#[.int .i64 A.k, .slice an A.nx.length cn, .slice aa A.ac.length ca] : Array Value)[o]?) ∧ (∀ o, y.cell? ⟨w.heap.size + 1, o, none⟩ = (#[.int .i64 B.k, .slice bn B.nx.length dn, .slice ba B.ac.length da] : Array Value)[o]?) ∧ Below w1.heap.size w1 y) := fun y hy => ⟨fun o => (below_cell hy hl1).trans (HS1.out.1 o), fun o => (below_cell hy hl2).trans (HS1.out.2 o), hy⟩
    have S0 : (∀ o, w1.drew.cell? ⟨w.heap.size, o, none⟩ = (#[.int .i64 A.k, .slice an A.nx.length cn, .slice aa A.ac.length ca] : Array Value)[o]?) ∧ (∀ o, w1.drew.cell? ⟨w.heap.size + 1, o, none⟩ = (#[.int .i64 B.k, .slice bn B.nx.length dn, .slice ba B.ac.length da] : Array Value)[o]?) ∧ Below w1.heap.size w1 w1.drew := KK.out w1.drew HBW.out
    clear cs1 cs2
    go_region_held3 (fun y => (∀ o, y.cell? ⟨w.heap.size, o, none⟩ = (#[.int .i64 A.k, .slice an A.nx.length cn, .slice aa A.ac.length ca] : Array Value)[o]?) ∧ (∀ o, y.cell? ⟨w.heap.size + 1, o, none⟩ = (#[.int .i64 B.k, .slice bn B.nx.length dn, .slice ba B.ac.length da] : Array Value)[o]?) ∧ Below w1.heap.size w1 y) (first | exact S0 | assumption | exact KK.out _ (by assumption) | exact KK.out _ (go_on HBW.out (by assumption))) (first
      | (go_at_call 36; refine HLS.out.mono ?_; rintro e y3 ⟨rfl, hu3, hb3⟩; have HU3 : Hid (∀ u, lsh (dd A B) A.k.toNat (se A B) (0, 0) = some u → u.length + 1 < (A.ac.length * B.ac.length + 1)) := hu3; have HB3 : Hid (Below w.heap.size w y3) := (HB1.out.trans (hb3.mono HB1.out.size)); clear hu3)
      | (go_at_call 39; refine HPT.out.mono ?_; rintro e y1 ⟨fv, rfl, hls, hy1⟩; have HLS : Hid (Calls Try.prog 36 #[(.agg #[.int .i64 A.k, .slice an A.nx.length cn, .slice aa A.ac.length ca]), (.agg #[.int .i64 B.k, .slice bn B.nx.length dn, .slice ba B.ac.length da]), fv, .func (.func 40) #[] #[]] y1 (fun e w' => e = .returned (.tuple #[.string (apS (lsh (dd A B) A.k.toNat (se A B) (0, 0))), .bool (apF (lsh (dd A B) A.k.toNat (se A B) (0, 0)))]) ∧ (∀ u, lsh (dd A B) A.k.toNat (se A B) (0, 0) = some u → u.length + 1 < (A.ac.length * B.ac.length + 1)) ∧ Below w1.heap.size w1 w')) := hls; clear hls))
    all_goals (
      clear S0
      go_wp2_with fail
      go_ret3
      have hO : eqO A B (se A B) = lsh (dd A B) A.k.toNat (se A B) (0, 0) := by unfold eqO; rw [if_pos HE.out]
      refine ⟨by rw [hO, HE.out]; rfl, fun u hu => ?_, HB3.out⟩
      rw [hO] at hu
      exact HU3.out u hu)
  · have HE : Hid (ckE A B = 20 ∨ ckE A B = 80) := h3
    have HO : Hid (eqO A B (se A B) = none) := by
      show _ = _
      unfold eqO
      rw [if_neg (by rcases h3 with q | q <;> rw [q] <;> decide)]
    obtain ⟨c, hc⟩ : ∃ c, ckE A B = c := ⟨_, rfl⟩
    rw [hc]
    have HC : Hid (ckE A B = c) := hc
    rw [hc] at h3
    have hc0 : ¬ c = 0 := by omega
    have hd : decide (c = 0) = false := decide_eq_false hc0
    have hbn : (c != 0) = true := by simpa using hc0
    clear h3 hc HE
    go_wp2_with fail
    go_ret3
    exact ⟨by rw [HO.out, HC.out]; rfl, fun u hu => (by rw [HO.out] at hu; cases hu), HB1.out⟩

set_option maxHeartbeats 4000000 in
set_option maxRecDepth 100000 in
theorem eme_any (va vb : Value) (A B : Aut) (w : World) (ha : AR w va A) (hb : AR w vb B) (hm : A.nx.length ≤ 9223372036854775806) (hm2 : A.ac.length ≤ 9223372036854775806) (hm3 : B.nx.length ≤ 9223372036854775806) (hm4 : B.ac.length ≤ 9223372036854775806) :
    Calls Try.prog 21 #[va, vb] w (EqQ A B (sm A B) (A.ac.length * B.ac.length + 1) w) := by
  have HARa : Hid (∀ y, Below w.heap.size w y → AR y va A) := fun y hy => ha.stay hy
  have HARb : Hid (∀ y, Below w.heap.size w y → AR y vb B) := fun y hy => hb.stay hy
  have HCK : Hid (∀ y, Below w.heap.size w y → Calls Try.prog 35 #[va, vb] y fun e w' => e = .returned (.int .i64 (ckE A B)) ∧ Below y.heap.size y w') := fun y hy => echeck_any va vb A B y (ha.stay hy) (hb.stay hy) hm hm2 hm3 hm4
  obtain ⟨an, cn, aa, ca, e1, _, _⟩ := ha.is
  obtain ⟨bn, dn, ba, da, e2, _, _⟩ := hb.is
  obtain ⟨V, hV⟩ : ∃ V, V = (w.alloc (.cells #[.int .i64 A.k, .slice an A.nx.length cn, .slice aa A.ac.length ca] 25)).alloc (.cells #[.int .i64 B.k, .slice bn B.nx.length dn, .slice ba B.ac.length da] 25) := ⟨_, rfl⟩
  have HVE : Hid (V = (w.alloc (.cells #[.int .i64 A.k, .slice an A.nx.length cn, .slice aa A.ac.length ca] 25)).alloc (.cells #[.int .i64 B.k, .slice bn B.nx.length dn, .slice ba B.ac.length da] 25)) := hV
  have HBV : Hid (Below w.heap.size w V) := by show Below _ _ _; rw [hV]; exact go_on (below_new _ _) (below_new _ _)
  have HR1 : Hid (RowAt V w.heap.size #[.int .i64 A.k, .slice an A.nx.length cn, .slice aa A.ac.length ca]) := by show RowAt _ _ _; rw [hV]; exact (RowAt.last _ _ _).alloc _
  have HR2 : Hid (RowAt V (w.heap.size + 1) #[.int .i64 B.k, .slice bn B.nx.length dn, .slice ba B.ac.length da]) := by
    have := RowAt.last (w.alloc (.cells #[.int .i64 A.k, .slice an A.nx.length cn, .slice aa A.ac.length ca] 25)) #[.int .i64 B.k, .slice bn B.nx.length dn, .slice ba B.ac.length da] 25
    rw [World.size_alloc] at this
    show RowAt _ _ _; rw [hV]; exact this
  have HVS : Hid (V.heap.size = w.heap.size + 2) := by show _ = _; rw [hV]; simp
  subst e1
  subst e2
  clear ha hb hV
  go_enter Try.func21, Try.ntmps21
  go_wp2_with fail
  rw [← HVE.out]
  refine (HCK.out V HBV.out).mono ?_
  rintro e w1 ⟨rfl, hb1⟩
  have HB1 : Hid (Below w.heap.size w w1) := go_on HBV.out hb1
  have cs1 := (HR1.out.stay hb1).cell
  have cs2 := (HR2.out.stay hb1).cell
  have HS1 : Hid ((∀ o, w1.cell? ⟨w.heap.size, o, none⟩ = (#[.int .i64 A.k, .slice an A.nx.length cn, .slice aa A.ac.length ca] : Array Value)[o]?) ∧ (∀ o, w1.cell? ⟨w.heap.size + 1, o, none⟩ = (#[.int .i64 B.k, .slice bn B.nx.length dn, .slice ba B.ac.length da] : Array Value)[o]?)) := ⟨cs1, cs2⟩
  have hl0 : w.heap.size + 2 ≤ w1.heap.size := by have := hb1.size; have := HVS.out; omega
  have hl1 : w.heap.size < w1.heap.size := by omega
  have hl2 : w.heap.size + 1 < w1.heap.size := by omega
  clear hb1 HCK hl0
  have hcs : (Good A ∧ Good B ∧ A.k = B.k ∧ ckE A B = 0) ∨ (ckE A B = 20 ∨ ckE A B = 80) := by
    rcases ckE_cases A B with ⟨g1, g2, hk, _, _, h3⟩ | ⟨_, _, _, h3⟩ | ⟨_, h3⟩ | ⟨_, _, h3⟩
    · exact .inl ⟨g1, g2, hk, h3⟩
    · exact .inr (.inl h3)
    · exact .inr (.inr h3)
    · exact .inr (.inr h3)
  rcases hcs with ⟨g1, g2, hk, h3⟩ | h3
  · have HE : Hid (ckE A B = 0) := h3
    have HG : Hid (Good A ∧ Good B ∧ A.k = B.k) := ⟨g1, g2, hk⟩
    have hn1 := g1.n1
    have hn2 := g1.n2
    have hm2' := g2.n2
    rw [h3]
    clear g1 g2 hk h3
    go_wp2_with fail
    have HBW : Hid (Below w1.heap.size w1 w1.drew) := (Below.refl _ _).drew
    have HPT : Hid (Calls Try.prog 39 #[] w1.drew fun e y1 => ∃ fv, e = .returned fv ∧ Calls Try.prog 36 #[(.agg #[.int .i64 A.k, .slice an A.nx.length cn, .slice aa A.ac.length ca]), (.agg #[.int .i64 B.k, .slice bn B.nx.length dn, .slice ba B.ac.length da]), fv, .func (.func 41) #[] #[]] y1 (fun e w' => e = .returned (.tuple #[.string (apS (lsh (dd A B) A.k.toNat (sm A B) (0, 0))), .bool (apF (lsh (dd A B) A.k.toNat (sm A B) (0, 0)))]) ∧ (∀ u, lsh (dd A B) A.k.toNat (sm A B) (0, 0) = some u → u.length + 1 < (A.ac.length * B.ac.length + 1)) ∧ Below w1.heap.size w1 w') ∧ Below w1.drew.heap.size w1.drew y1) := by
      refine (unmet_any w1.drew).mono ?_
      rintro e w2 ⟨mb, mo, tb, O, rfl, hF, hO, hb2⟩
      refine ⟨_, rfl, ?_, hb2⟩
      have hbb : Below w1.heap.size w1 w2 := go_on HBW.out hb2
      refine Calls.mono (least_any (fun P O w => FU mb mo tb P O w) dU 58 41 _ _ (fun p q => p && q) A B (FU.frs mb mo tb A.ac.length B.ac.length hn2 hm2') w2 w1.heap.size hb2.size O hF hO _ _ (fun z hz => HARa.out z (HB1.out.trans ((hbb.trans hz).mono HB1.out.size))) (fun z hz => HARb.out z (HB1.out.trans ((hbb.trans hz).mono HB1.out.size))) HG.out.1 HG.out.2.1 HG.out.2.2.symm (fun _ _ => rfl) (fun _ _ => rfl) meet1_any (sm A B) (fun _ _ => rfl) (fun P p h1 h2 h3 h4 => unmet_cov P p h1 h2 h3 h4) (fun P h => by have := unmet_len P h; have := Nat.mul_le_mul hn2 hm2'; omega)) ?_
      rintro e w3 ⟨rfl, hu3, hb3⟩
      refine ⟨rfl, fun u hu => ?_, hbb.trans hb3⟩
      obtain ⟨P, hP, hl⟩ := hu3 u hu
      have := unmet_len P hP
      omega
    have KK : Hid (∀ y, Below w1.heap.size w1 y → (∀ o, y.cell? ⟨w.heap.size, o, none⟩ = (#[.int .i64 A.k, .slice an A.nx.length cn, .slice aa A.ac.length ca] : Array Value)[o]?) ∧ (∀ o, y.cell? ⟨w.heap.size + 1, o, none⟩ = (#[.int .i64 B.k, .slice bn B.nx.length dn, .slice ba B.ac.length da] : Array Value)[o]?) ∧ Below w1.heap.size w1 y) := fun y hy => ⟨fun o => (below_cell hy hl1).trans (HS1.out.1 o), fun o => (below_cell hy hl2).trans (HS1.out.2 o), hy⟩
    have S0 : (∀ o, w1.drew.cell? ⟨w.heap.size, o, none⟩ = (#[.int .i64 A.k, .slice an A.nx.length cn, .slice aa A.ac.length ca] : Array Value)[o]?) ∧ (∀ o, w1.drew.cell? ⟨w.heap.size + 1, o, none⟩ = (#[.int .i64 B.k, .slice bn B.nx.length dn, .slice ba B.ac.length da] : Array Value)[o]?) ∧ Below w1.heap.size w1 w1.drew := KK.out w1.drew HBW.out
    clear cs1 cs2
    go_region_held3 (fun y => (∀ o, y.cell? ⟨w.heap.size, o, none⟩ = (#[.int .i64 A.k, .slice an A.nx.length cn, .slice aa A.ac.length ca] : Array Value)[o]?) ∧ (∀ o, y.cell? ⟨w.heap.size + 1, o, none⟩ = (#[.int .i64 B.k, .slice bn B.nx.length dn, .slice ba B.ac.length da] : Array Value)[o]?) ∧ Below w1.heap.size w1 y) (first | exact S0 | assumption | exact KK.out _ (by assumption) | exact KK.out _ (go_on HBW.out (by assumption))) (first
      | (go_at_call 36; refine HLS.out.mono ?_; rintro e y3 ⟨rfl, hu3, hb3⟩; have HU3 : Hid (∀ u, lsh (dd A B) A.k.toNat (sm A B) (0, 0) = some u → u.length + 1 < (A.ac.length * B.ac.length + 1)) := hu3; have HB3 : Hid (Below w.heap.size w y3) := (HB1.out.trans (hb3.mono HB1.out.size)); clear hu3)
      | (go_at_call 39; refine HPT.out.mono ?_; rintro e y1 ⟨fv, rfl, hls, hy1⟩; have HLS : Hid (Calls Try.prog 36 #[(.agg #[.int .i64 A.k, .slice an A.nx.length cn, .slice aa A.ac.length ca]), (.agg #[.int .i64 B.k, .slice bn B.nx.length dn, .slice ba B.ac.length da]), fv, .func (.func 41) #[] #[]] y1 (fun e w' => e = .returned (.tuple #[.string (apS (lsh (dd A B) A.k.toNat (sm A B) (0, 0))), .bool (apF (lsh (dd A B) A.k.toNat (sm A B) (0, 0)))]) ∧ (∀ u, lsh (dd A B) A.k.toNat (sm A B) (0, 0) = some u → u.length + 1 < (A.ac.length * B.ac.length + 1)) ∧ Below w1.heap.size w1 w')) := hls; clear hls))
    all_goals (
      clear S0
      go_wp2_with fail
      go_ret3
      have hO : eqO A B (sm A B) = lsh (dd A B) A.k.toNat (sm A B) (0, 0) := by unfold eqO; rw [if_pos HE.out]
      refine ⟨by rw [hO, HE.out]; rfl, fun u hu => ?_, HB3.out⟩
      rw [hO] at hu
      exact HU3.out u hu)
  · have HE : Hid (ckE A B = 20 ∨ ckE A B = 80) := h3
    have HO : Hid (eqO A B (sm A B) = none) := by
      show _ = _
      unfold eqO
      rw [if_neg (by rcases h3 with q | q <;> rw [q] <;> decide)]
    obtain ⟨c, hc⟩ : ∃ c, ckE A B = c := ⟨_, rfl⟩
    rw [hc]
    have HC : Hid (ckE A B = c) := hc
    rw [hc] at h3
    have hc0 : ¬ c = 0 := by omega
    have hd : decide (c = 0) = false := decide_eq_false hc0
    have hbn : (c != 0) = true := by simpa using hc0
    clear h3 hc HE
    go_wp2_with fail
    go_ret3
    exact ⟨by rw [HO.out, HC.out]; rfl, fun u hu => (by rw [HO.out] at hu; cases hu), HB1.out⟩
end Go.Proofs.Ytggheiblgghpkaa

namespace Go.Proofs.Ytggheiblgghpkaa
open Go Go.RowKit Go.Lib Go.Maps
set_option linter.unusedVariables false

/-- There is none. -/
noncomputable def eqB (A B : Aut) (sh : Nat × Nat → Bool) : Bool := decide (ckE A B = 0) && !apF (eqO A B sh)

set_option maxHeartbeats 4000000 in
set_option maxRecDepth 100000 in
theorem eeq_any (va vb : Value) (A B : Aut) (w : World) (ha : AR w va A) (hb : AR w vb B) (hm : A.nx.length ≤ 9223372036854775806) (hm2 : A.ac.length ≤ 9223372036854775806) (hm3 : B.nx.length ≤ 9223372036854775806) (hm4 : B.ac.length ≤ 9223372036854775806) :
    Calls Try.prog 10 #[va, vb] w fun e w' => e = .returned (.tuple #[.bool (eqB A B (sx A B)), .int .i64 (ckE A B)]) ∧ Below w.heap.size w w' := by
  obtain ⟨c, hc⟩ : ∃ c, ckE A B = c := ⟨_, rfl⟩
  obtain ⟨f, hf⟩ : ∃ f, apF (eqO A B (sx A B)) = f := ⟨_, rfl⟩
  have hE : eqB A B (sx A B) = (decide (c = 0) && !f) := by unfold eqB; rw [hc, hf]
  obtain ⟨s, hs⟩ : ∃ s, apS (eqO A B (sx A B)) = s := ⟨_, rfl⟩
  have HC : Hid (∀ y, Below w.heap.size w y → Calls Try.prog 17 #[va, vb] y fun e w' => e = .returned (.tuple #[.string s, .bool f, .int .i64 c]) ∧ Below y.heap.size y w') := fun y hy => by
    refine Calls.mono (edf_any va vb A B y (ha.stay hy) (hb.stay hy) hm hm2 hm3 hm4) ?_
    rintro e w' ⟨rfl, _, h3⟩
    exact ⟨by rw [hs, hf, hc], h3⟩
  rw [hE, hc]
  clear hE hc hf hs
  obtain ⟨an, cn, aa, ca, e1, _, _⟩ := ha.is
  obtain ⟨bn, dn, ba, da, e2, _, _⟩ := hb.is
  subst e1
  subst e2
  clear ha hb
  go_enter Try.func10, Try.ntmps10
  go_wp2_with fail
  refine (HC.out _ (go_on (below_new _ _) (below_new _ _))).mono ?_
  rintro e w1 ⟨rfl, hb1⟩
  have HB1 : Hid (Below w.heap.size w w1) := go_on (go_on (below_new _ _) (below_new _ _)) hb1
  clear hb1 HC
  by_cases h0 : c = 0
  · subst h0
    cases f <;> (go_wp2_with fail; go_ret2; exact ⟨rfl, HB1.out⟩)
  · have hd : decide (c = 0) = false := decide_eq_false h0
    have hbe : (c == 0) = false := by simpa using h0
    go_wp2_with fail
    go_ret2
    exact ⟨by rw [decide_eq_false h0]; rfl, HB1.out⟩

set_option maxHeartbeats 4000000 in
set_option maxRecDepth 100000 in
theorem ein_any (va vb : Value) (A B : Aut) (w : World) (ha : AR w va A) (hb : AR w vb B) (hm : A.nx.length ≤ 9223372036854775806) (hm2 : A.ac.length ≤ 9223372036854775806) (hm3 : B.nx.length ≤ 9223372036854775806) (hm4 : B.ac.length ≤ 9223372036854775806) :
    Calls Try.prog 12 #[va, vb] w fun e w' => e = .returned (.tuple #[.bool (eqB A B (se A B)), .int .i64 (ckE A B)]) ∧ Below w.heap.size w w' := by
  obtain ⟨c, hc⟩ : ∃ c, ckE A B = c := ⟨_, rfl⟩
  obtain ⟨f, hf⟩ : ∃ f, apF (eqO A B (se A B)) = f := ⟨_, rfl⟩
  have hE : eqB A B (se A B) = (decide (c = 0) && !f) := by unfold eqB; rw [hc, hf]
  obtain ⟨s, hs⟩ : ∃ s, apS (eqO A B (se A B)) = s := ⟨_, rfl⟩
  have HC : Hid (∀ y, Below w.heap.size w y → Calls Try.prog 19 #[va, vb] y fun e w' => e = .returned (.tuple #[.string s, .bool f, .int .i64 c]) ∧ Below y.heap.size y w') := fun y hy => by
    refine Calls.mono (ees_any va vb A B y (ha.stay hy) (hb.stay hy) hm hm2 hm3 hm4) ?_
    rintro e w' ⟨rfl, _, h3⟩
    exact ⟨by rw [hs, hf, hc], h3⟩
  rw [hE, hc]
  clear hE hc hf hs
  obtain ⟨an, cn, aa, ca, e1, _, _⟩ := ha.is
  obtain ⟨bn, dn, ba, da, e2, _, _⟩ := hb.is
  subst e1
  subst e2
  clear ha hb
  go_enter Try.func12, Try.ntmps12
  go_wp2_with fail
  refine (HC.out _ (go_on (below_new _ _) (below_new _ _))).mono ?_
  rintro e w1 ⟨rfl, hb1⟩
  have HB1 : Hid (Below w.heap.size w w1) := go_on (go_on (below_new _ _) (below_new _ _)) hb1
  clear hb1 HC
  by_cases h0 : c = 0
  · subst h0
    cases f <;> (go_wp2_with fail; go_ret2; exact ⟨rfl, HB1.out⟩)
  · have hd : decide (c = 0) = false := decide_eq_false h0
    have hbe : (c == 0) = false := by simpa using h0
    go_wp2_with fail
    go_ret2
    exact ⟨by rw [decide_eq_false h0]; rfl, HB1.out⟩

theorem num12_any (e0 : Int) (w : World) :
    Calls Try.prog 14 #[.int .i64 e0] w fun e w' => e = .returned (.int .i64 e0) ∧ w' = w := by
  go_enter Try.func14, Try.ntmps14
  go_wp2_with fail
  go_ret
  exact ⟨rfl, rfl⟩
set_option maxHeartbeats 4000000 in
set_option maxRecDepth 100000 in
theorem rtwo_any (va vb : Value) (A B : Aut) (w : World) (ha : AR w va A) (hb : AR w vb B) (hm : A.nx.length ≤ 9223372036854775806) (hm2 : A.ac.length ≤ 9223372036854775806) (hm3 : B.nx.length ≤ 9223372036854775806) (hm4 : B.ac.length ≤ 9223372036854775806) :
    Calls Try.prog 42 #[va, vb] w fun e w' => e = .returned (.int .i64 (ckE A B)) ∧ Below w.heap.size w w' := by
  obtain ⟨an, cn, aa, ca, e1, _, _⟩ := ha.is
  obtain ⟨bn, dn, ba, da, e2, _, _⟩ := hb.is
  have HA : Hid (∀ y, Below w.heap.size w y → Calls Try.prog 59 #[va] y fun e w' => e = .returned (.int .i64 (chkA A)) ∧ Below y.heap.size y w') := fun y hy => racheck_any va A y (ha.stay hy) hm hm2
  have HB : Hid (∀ y, Below w.heap.size w y → Calls Try.prog 59 #[vb] y fun e w' => e = .returned (.int .i64 (chkA B)) ∧ Below y.heap.size y w') := fun y hy => racheck_any vb B y (hb.stay hy) hm3 hm4
  subst e1
  subst e2
  obtain ⟨V, hV⟩ : ∃ V, V = (w.alloc (.cells #[.int .i64 A.k, .slice an A.nx.length cn, .slice aa A.ac.length ca] 25)).alloc (.cells #[.int .i64 B.k, .slice bn B.nx.length dn, .slice ba B.ac.length da] 25) := ⟨_, rfl⟩
  have HVE : Hid (V = (w.alloc (.cells #[.int .i64 A.k, .slice an A.nx.length cn, .slice aa A.ac.length ca] 25)).alloc (.cells #[.int .i64 B.k, .slice bn B.nx.length dn, .slice ba B.ac.length da] 25)) := hV
  have HBV : Hid (Below w.heap.size w V) := by show Below _ _ _; rw [hV]; exact go_on (below_new _ _) (below_new _ _)
  have HR1 : Hid (RowAt V w.heap.size #[.int .i64 A.k, .slice an A.nx.length cn, .slice aa A.ac.length ca]) := by show RowAt _ _ _; rw [hV]; exact (RowAt.last _ _ _).alloc _
  have HR2 : Hid (RowAt V (w.heap.size + 1) #[.int .i64 B.k, .slice bn B.nx.length dn, .slice ba B.ac.length da]) := by
    have := RowAt.last (w.alloc (.cells #[.int .i64 A.k, .slice an A.nx.length cn, .slice aa A.ac.length ca] 25)) #[.int .i64 B.k, .slice bn B.nx.length dn, .slice ba B.ac.length da] 25
    rw [World.size_alloc] at this
    show RowAt _ _ _; rw [hV]; exact this
  clear ha hb hV
  go_enter Try.func42, Try.ntmps42
  go_wp2_with fail
  rw [← HVE.out]
  refine (HA.out V HBV.out).mono ?_
  rintro e w1 ⟨rfl, hb1⟩
  have HB1 : Hid (Below w.heap.size w w1) := go_on HBV.out hb1
  have HR3 : Hid (RowAt w1 w.heap.size #[.int .i64 A.k, .slice an A.nx.length cn, .slice aa A.ac.length ca]) := HR1.out.stay hb1
  have HR4 : Hid (RowAt w1 (w.heap.size + 1) #[.int .i64 B.k, .slice bn B.nx.length dn, .slice ba B.ac.length da]) := HR2.out.stay hb1
  have cs := HR4.out.cell
  clear hb1
  rcases ckE_cases A B with ⟨_, _, hk, h1, h2, h3⟩ | ⟨h1, h2, hk, h3⟩ | ⟨h1, h3⟩ | ⟨h1, h2, h3⟩
  · have HE : Hid (ckE A B = _) := h3
    rw [h1]
    rw [h2] at HB
    clear h1 h2 h3
    go_wp2_with fail
    refine (HB.out w1 HB1.out).mono ?_
    rintro e w2 ⟨rfl, hb2⟩
    have HB2 : Hid (Below w.heap.size w w2) := go_on HB1.out hb2
    have c1 := (HR3.out.stay hb2).cell
    have c2 := (HR4.out.stay hb2).cell
    clear hb2 cs
    go_wp2_with fail
    go_ret
    exact ⟨by rw [HE.out]; rfl, HB2.out⟩
  · have HE : Hid (ckE A B = _) := h3
    rw [h1]
    rw [h2] at HB
    clear h1 h2 h3
    go_wp2_with fail
    refine (HB.out w1 HB1.out).mono ?_
    rintro e w2 ⟨rfl, hb2⟩
    have HB2 : Hid (Below w.heap.size w w2) := go_on HB1.out hb2
    have c1 := (HR3.out.stay hb2).cell
    have c2 := (HR4.out.stay hb2).cell
    have hd : decide (A.k = B.k) = false := decide_eq_false hk
    have hbn : (A.k != B.k) = true := by simpa using hk
    clear hb2 cs
    go_wp2_with fail
    go_ret
    exact ⟨by rw [HE.out]; rfl, HB2.out⟩
  · have HE : Hid (ckE A B = _) := h3
    rw [h1]
    clear h1 h3
    have c1 := HR3.out.cell
    go_wp2_with fail
    go_ret
    exact ⟨by rw [HE.out]; rfl, HB1.out⟩
  · have HE : Hid (ckE A B = _) := h3
    rw [h1]
    rw [h2] at HB
    clear h1 h2 h3
    go_wp2_with fail
    refine (HB.out w1 HB1.out).mono ?_
    rintro e w2 ⟨rfl, hb2⟩
    have HB2 : Hid (Below w.heap.size w w2) := go_on HB1.out hb2
    have c1 := (HR3.out.stay hb2).cell
    have c2 := (HR4.out.stay hb2).cell
    clear hb2 cs
    go_wp2_with fail
    go_ret
    exact ⟨by rw [HE.out]; rfl, HB2.out⟩
/-- May two be asked? -/
theorem good_any (va vb : Value) (A B : Aut) (w : World) (ha : AR w va A) (hb : AR w vb B) (hm : A.nx.length ≤ 9223372036854775806) (hm2 : A.ac.length ≤ 9223372036854775806) (hm3 : B.nx.length ≤ 9223372036854775806) (hm4 : B.ac.length ≤ 9223372036854775806) (b : Bool) (hbb : decide (ckE A B = 0) = b) :
    Calls Try.prog 23 #[va, vb] w fun e w' => e = .returned (.bool b) ∧ Below w.heap.size w w' := by
  have HC : Hid (∀ y, Below w.heap.size w y → Calls Try.prog 42 #[va, vb] y fun e w' => e = .returned (.int .i64 (ckE A B)) ∧ Below y.heap.size y w') := fun y hy => rtwo_any va vb A B y (ha.stay hy) (hb.stay hy) hm hm2 hm3 hm4
  obtain ⟨an, cn, aa, ca, e1, _, _⟩ := ha.is
  obtain ⟨bn, dn, ba, da, e2, _, _⟩ := hb.is
  subst e1
  subst e2
  obtain ⟨c, hc⟩ : ∃ c, ckE A B = c := ⟨_, rfl⟩
  rw [hc] at HC hbb
  have HE : Hid (decide (c = 0) = b) := hbb
  clear ha hb hc hbb
  go_enter Try.func23, Try.ntmps23
  go_wp2_with fail
  refine (HC.out _ (go_on (below_new _ _) (below_new _ _))).mono ?_
  rintro e w1 ⟨rfl, hb1⟩
  have HB1 : Hid (Below w.heap.size w w1) := go_on (go_on (below_new _ _) (below_new _ _)) hb1
  clear hb1 HC
  by_cases h0 : c = 0
  · subst h0
    go_wp2_with fail
    go_ret
    exact ⟨by rw [← HE.out]; rfl, HB1.out⟩
  · have hd : decide (c = 0) = false := decide_eq_false h0
    have hbe : (c == 0) = false := by simpa using h0
    go_wp2_with fail
    go_ret
    exact ⟨by rw [← HE.out, decide_eq_false h0]; rfl, HB1.out⟩
end Go.Proofs.Ytggheiblgghpkaa

namespace Go.Proofs.Ytggheiblgghpkaa
open Go Go.RowKit Go.Lib Go.Maps
set_option linter.unusedVariables false

def alA : Aut := ⟨2, [0, 0], [true]⟩
theorem alA_good : Good alA := ⟨by decide, by decide, by decide, by decide, by decide, by decide, by decide⟩
theorem pal_ck : ckE plA alA = 0 := by
  unfold ckE
  rw [if_pos ⟨chkA_ok plA_good, chkA_ok alA_good⟩, if_pos (show plA.k = alA.k from rfl)]
theorem al_run (v : List Nat) (h : ∀ a ∈ v, a < 2) : wrun (dN alA) 0 v = 0 := by
  induction v with
  | nil => rfl
  | cons a v ih =>
    rw [wrun_cons]
    have ha := h a (by simp)
    have : dN alA 0 a = 0 := by
      rcases (show a = 0 ∨ a = 1 by omega) with rfl | rfl <;> decide
    rw [this]
    exact ih (fun b hb => h b (by simp [hb]))
theorem pal_differ : eqO plA alA (sx plA alA) = some [0] := by
  unfold eqO
  rw [if_pos pal_ck]
  refine lsh_some ⟨by decide, by decide +kernel, fun v hv hs => ?_⟩
  cases v with
  | nil => exact absurd hs (by decide +kernel)
  | cons a v =>
    cases v with
    | nil =>
      refine .inr ⟨rfl, ?_⟩
      show 0 < a ∨ (0 = a ∧ True)
      rcases Nat.eq_zero_or_pos a with q | q
      · exact .inr ⟨q.symm, trivial⟩
      · exact .inl q
    | cons b v => exact .inl (by simp)
theorem pal_inside : eqB plA alA (se plA alA) = true := by
  have : eqO plA alA (se plA alA) = none := by
    unfold eqO
    rw [if_pos pal_ck]
    refine lsh_none (fun v hv => ?_)
    rw [wrun_dd]
    unfold se
    show (_ && !aN alA (wrun (dN alA) 0 v)) = false
    rw [al_run v hv]
    simp [aN, alA]
  unfold eqB
  rw [this, pal_ck]
  rfl

set_option maxHeartbeats 4000000 in
set_option maxRecDepth 100000 in
theorem live12_any (w : World) : Calls Try.prog 16 #[] w fun e w' => e = .returned (.bool true) ∧ Below w.heap.size w w' := by
  go_enter Try.func16, Try.ntmps16
  go_wp2_with fail
  obtain ⟨U, hU⟩ : ∃ U, U = (((w.alloc (.cells #[.int .i64 0, .int .i64 0] 3)).alloc (.cells #[.bool true] 4)).alloc (.cells #[.int .i64 2, .slice (some ⟨w.heap.size, 0, none⟩) 2 2, .slice (some ⟨w.heap.size + 1, 0, none⟩) 1 1] 25)) := ⟨_, rfl⟩
  have e1 : U.heap[w.heap.size]? = some (.cells #[.int .i64 0, .int .i64 0] 3 (0, 0)) := by
    rw [hU, (below_new _ _).block _ (by simp; omega), (below_new _ _).block _ (by simp)]
    exact heap_alloc_last _ _
  have e2 : U.heap[w.heap.size + 1]? = some (.cells #[.bool true] 4 (0, 0)) := by
    rw [hU, (below_new _ _).block _ (by simp)]
    have := heap_alloc_last (w.alloc (.cells #[.int .i64 0, .int .i64 0] 3)) (.cells #[.bool true] 4)
    rw [World.size_alloc] at this
    exact this
  have hBU : Below w.heap.size w U := by rw [hU]; exact go_on (go_on (below_new _ _) (below_new _ _)) (below_new _ _)
  have hAR : AR U (.agg #[.int .i64 2, .slice (some ⟨w.heap.size, 0, none⟩) 2 2, .slice (some ⟨w.heap.size + 1, 0, none⟩) 1 1]) alA := by
    refine (show AO w.heap.size U _ alA from ⟨_, _, _, _, rfl, ⟨rfl, .inr ⟨w.heap.size, 2, _, rfl, Nat.le_refl _, e1, Nat.le_refl _, by unfold maxLen; omega, rfl, rfl⟩⟩, ⟨rfl, .inr ⟨w.heap.size + 1, 1, _, rfl, by omega, e2, Nat.le_refl _, by unfold maxLen; omega, rfl, rfl⟩⟩⟩).ar
  have HDF : Hid (∀ y v, AR y v plA → Below U.heap.size U y → Calls Try.prog 17 #[v, .agg #[.int .i64 2, .slice (some ⟨w.heap.size, 0, none⟩) 2 2, .slice (some ⟨w.heap.size + 1, 0, none⟩) 1 1]] y fun e w' => e = .returned (.tuple #[.string ⟨#[97]⟩, .bool true, .int .i64 0]) ∧ Below y.heap.size y w') := fun y v hv hy => by
    refine Calls.mono (edf_any v _ plA alA y hv (hAR.stay hy) (by decide) (by decide) (by decide) (by decide)) ?_
    rintro e w' ⟨rfl, _, h3⟩
    exact ⟨by rw [pal_differ, pal_ck]; rfl, h3⟩
  have HIN : Hid (∀ y v, AR y v plA → Below U.heap.size U y → Calls Try.prog 12 #[v, .agg #[.int .i64 2, .slice (some ⟨w.heap.size, 0, none⟩) 2 2, .slice (some ⟨w.heap.size + 1, 0, none⟩) 1 1]] y fun e w' => e = .returned (.tuple #[.bool true, .int .i64 0]) ∧ Below y.heap.size y w') := fun y v hv hy => by
    refine Calls.mono (ein_any v _ plA alA y hv (hAR.stay hy) (by decide) (by decide) (by decide) (by decide)) ?_
    rintro e w' ⟨rfl, h3⟩
    exact ⟨by rw [pal_inside, pal_ck], h3⟩
  have hUs : U.heap.size = w.heap.size + 3 := by rw [hU]; simp
  have S9 : (∀ o, U.cell? ⟨w.heap.size + 1 + 1, o, none⟩ = (#[.int .i64 2, .slice (some ⟨w.heap.size, 0, none⟩) 2 2, .slice (some ⟨w.heap.size + 1, 0, none⟩) 1 1] : Array Value)[o]?) ∧ Below U.heap.size U U := by
    refine ⟨fun o => ?_, Below.refl _ _⟩
    have := heap_alloc_last ((w.alloc (.cells #[.int .i64 0, .int .i64 0] 3)).alloc (.cells #[.bool true] 4)) (.cells #[.int .i64 2, .slice (some ⟨w.heap.size, 0, none⟩) 2 2, .slice (some ⟨w.heap.size + 1, 0, none⟩) 1 1] 25)
    simp only [World.size_alloc] at this
    rw [← hU] at this
    exact cell_of this
  have KK : Hid (∀ y1 y2, Below y1.heap.size y1 y2 → ((∀ o, y1.cell? ⟨w.heap.size + 1 + 1, o, none⟩ = (#[.int .i64 2, .slice (some ⟨w.heap.size, 0, none⟩) 2 2, .slice (some ⟨w.heap.size + 1, 0, none⟩) 1 1] : Array Value)[o]?) ∧ Below U.heap.size U y1) → ((∀ o, y2.cell? ⟨w.heap.size + 1 + 1, o, none⟩ = (#[.int .i64 2, .slice (some ⟨w.heap.size, 0, none⟩) 2 2, .slice (some ⟨w.heap.size + 1, 0, none⟩) 1 1] : Array Value)[o]?) ∧ Below U.heap.size U y2)) := fun y1 y2 hy h => ⟨fun o => (below_cell hy (by have := h.2.size; omega)).trans (h.1 o), go_on h.2 hy⟩
  have HBU : Hid (Below w.heap.size w U) := hBU
  rw [← hU]
  clear hU e1 e2 hBU hAR hUs
  have S1 : (∀ o, U.drew.cell? ⟨w.heap.size + 1 + 1, o, none⟩ = (#[.int .i64 2, .slice (some ⟨w.heap.size, 0, none⟩) 2 2, .slice (some ⟨w.heap.size + 1, 0, none⟩) 1 1] : Array Value)[o]?) ∧ Below U.heap.size U U.drew := KK.out U U.drew (Below.refl _ _).drew S9
  go_region_held3 (fun y => (∀ o, y.cell? ⟨w.heap.size + 1 + 1, o, none⟩ = (#[.int .i64 2, .slice (some ⟨w.heap.size, 0, none⟩) 2 2, .slice (some ⟨w.heap.size + 1, 0, none⟩) 1 1] : Array Value)[o]?) ∧ Below U.heap.size U y) (first | exact S1 | assumption | exact KK.out _ _ (by assumption) (by assumption)) (first
    | (go_at_call 17; refine (HDF.out _ _ (HP1.out _ (Below.refl _ _)) (And.right (by assumption))).mono ?_; rintro e z1 ⟨rfl, hz1⟩)
    | (go_at_call 34; refine (plain_any _).mono ?_; rintro e p1 ⟨v1, rfl, hao1, hp1⟩; have hav1 := hao1.ar; obtain ⟨rn1, rc1, ra1, rd1, rfl, _, _⟩ := hao1; have HP1 : Hid (∀ z, Below p1.heap.size p1 z → AR z (.agg #[.int .i64 plA.k, .slice rn1 plA.nx.length rc1, .slice ra1 plA.ac.length rd1]) plA) := (fun z hz => hav1.stay hz); clear hav1))
  all_goals (
    have S8 : (∀ o, z1.cell? ⟨w.heap.size + 1 + 1, o, none⟩ = (#[.int .i64 2, .slice (some ⟨w.heap.size, 0, none⟩) 2 2, .slice (some ⟨w.heap.size + 1, 0, none⟩) 1 1] : Array Value)[o]?) ∧ Below U.heap.size U z1 := by first | assumption | exact KK.out _ _ (by assumption) (by assumption)
    clear S9 S1
    go_wp2_with fail
    have S2 : (∀ o, z1.drew.cell? ⟨w.heap.size + 1 + 1, o, none⟩ = (#[.int .i64 2, .slice (some ⟨w.heap.size, 0, none⟩) 2 2, .slice (some ⟨w.heap.size + 1, 0, none⟩) 1 1] : Array Value)[o]?) ∧ Below U.heap.size U z1.drew := KK.out z1 z1.drew (Below.refl _ _).drew S8
    go_region_held3 (fun y => (∀ o, y.cell? ⟨w.heap.size + 1 + 1, o, none⟩ = (#[.int .i64 2, .slice (some ⟨w.heap.size, 0, none⟩) 2 2, .slice (some ⟨w.heap.size + 1, 0, none⟩) 1 1] : Array Value)[o]?) ∧ Below U.heap.size U y) (first | exact S2 | assumption | exact KK.out _ _ (by assumption) (by assumption)) (first
      | (go_at_call 12; refine (HIN.out _ _ (HP2.out _ (Below.refl _ _)) (And.right (by assumption))).mono ?_; rintro e z2 ⟨rfl, hz2⟩)
      | (go_at_call 34; refine (plain_any _).mono ?_; rintro e p2 ⟨v2, rfl, hao2, hp2⟩; have hav2 := hao2.ar; obtain ⟨rn2, rc2, ra2, rd2, rfl, _, _⟩ := hao2; have HP2 : Hid (∀ z, Below p2.heap.size p2 z → AR z (.agg #[.int .i64 plA.k, .slice rn2 plA.nx.length rc2, .slice ra2 plA.ac.length rd2]) plA) := (fun z hz => hav2.stay hz); clear hav2))
    all_goals (
      have S7 : (∀ o, z2.cell? ⟨w.heap.size + 1 + 1, o, none⟩ = (#[.int .i64 2, .slice (some ⟨w.heap.size, 0, none⟩) 2 2, .slice (some ⟨w.heap.size + 1, 0, none⟩) 1 1] : Array Value)[o]?) ∧ Below U.heap.size U z2 := by first | assumption | exact KK.out _ _ (by assumption) (by assumption)
      have HBZ : Hid (Below w.heap.size w z2) := go_on HBU.out S7.2
      clear S8 S2 S7
      go_wp2_with fail
      refine (num12_any _ _).mono ?_
      rintro e yn ⟨rfl, hyn⟩
      subst yn
      go_wp2_with fail
      refine (num12_any _ _).mono ?_
      rintro e yn ⟨rfl, hyn⟩
      subst yn
      go_wp2_with fail
      go_ret
      exact ⟨rfl, HBZ.out⟩))
end Go.Proofs.Ytggheiblgghpkaa

namespace Go.Proofs.Ytggheiblgghpkaa
open Go Go.RowKit Go.Lib Go.Maps
set_option linter.unusedVariables false

theorem ckE_ok {A B : Aut} (G : Good A) (H : Good B) (hk : A.k = B.k) : ckE A B = 0 := by
  unfold ckE
  rw [if_pos ⟨chkA_ok G, chkA_ok H⟩, if_pos hk]
theorem sx_se (A B : Aut) (v : List Nat) : sx A B (wrun (dd A B) (0, 0) v) = true ↔ se A B (wrun (dd A B) (0, 0) v) = true ∨ se B A (wrun (dd B A) (0, 0) v) = true := by
  rw [wrun_dd, wrun_dd]
  unfold sx se
  cases aN A (wrun (dN A) 0 v) <;> cases aN B (wrun (dN B) 0 v) <;> simp
theorem tg (A B : Aut) (K : Nat) :
    (∃ u v, lsh (dd A B) K (se A B) (0, 0) = some u ∧ lsh (dd B A) K (se B A) (0, 0) = some v ∧ ¬ sle v u ∧ lsh (dd A B) K (sx A B) (0, 0) = some u) ∨
    (∃ u v, lsh (dd A B) K (se A B) (0, 0) = some u ∧ lsh (dd B A) K (se B A) (0, 0) = some v ∧ sle v u ∧ lsh (dd A B) K (sx A B) (0, 0) = some v) ∨
    (∃ u, lsh (dd A B) K (se A B) (0, 0) = some u ∧ lsh (dd B A) K (se B A) (0, 0) = none ∧ lsh (dd A B) K (sx A B) (0, 0) = some u) ∨
    (∃ v, lsh (dd A B) K (se A B) (0, 0) = none ∧ lsh (dd B A) K (se B A) (0, 0) = some v ∧ lsh (dd A B) K (sx A B) (0, 0) = some v) ∨
    (lsh (dd A B) K (se A B) (0, 0) = none ∧ lsh (dd B A) K (se B A) (0, 0) = none ∧ lsh (dd A B) K (sx A B) (0, 0) = none) := by
  cases h1 : lsh (dd A B) K (se A B) (0, 0) with
  | some u =>
    have L1 := lsh_is h1
    cases h2 : lsh (dd B A) K (se B A) (0, 0) with
    | some v =>
      have L2 := lsh_is h2
      by_cases q : sle v u
      · refine .inr (.inl ⟨u, v, rfl, rfl, q, lsh_some ⟨L2.1, (sx_se A B v).2 (.inr L2.2.1), fun x hx hs => ?_⟩⟩)
        rcases (sx_se A B x).1 hs with z | z
        · exact sle_trans q (L1.2.2 x hx z)
        · exact L2.2.2 x hx z
      · have q' : sle u v := (sle_total u v).resolve_right q
        refine .inl ⟨u, v, rfl, rfl, q, lsh_some ⟨L1.1, (sx_se A B u).2 (.inl L1.2.1), fun x hx hs => ?_⟩⟩
        rcases (sx_se A B x).1 hs with z | z
        · exact L1.2.2 x hx z
        · exact sle_trans q' (L2.2.2 x hx z)
    | none =>
      refine .inr (.inr (.inl ⟨u, rfl, rfl, lsh_some ⟨L1.1, (sx_se A B u).2 (.inl L1.2.1), fun x hx hs => ?_⟩⟩))
      rcases (sx_se A B x).1 hs with z | z
      · exact L1.2.2 x hx z
      · rw [lsh_no h2 x hx] at z; cases z
  | none =>
    cases h2 : lsh (dd B A) K (se B A) (0, 0) with
    | some v =>
      have L2 := lsh_is h2
      refine .inr (.inr (.inr (.inl ⟨v, rfl, rfl, lsh_some ⟨L2.1, (sx_se A B v).2 (.inr L2.2.1), fun x hx hs => ?_⟩⟩)))
      rcases (sx_se A B x).1 hs with z | z
      · rw [lsh_no h1 x hx] at z; cases z
      · exact L2.2.2 x hx z
    | none =>
      refine .inr (.inr (.inr (.inr ⟨rfl, rfl, lsh_none (fun x hx => ?_)⟩)))
      cases q : sx A B (wrun (dd A B) (0, 0) x) with
      | false => rfl
      | true =>
        rcases (sx_se A B x).1 q with z | z
        · rw [lsh_no h1 x hx] at z; cases z
        · rw [lsh_no h2 x hx] at z; cases z
/-- What the calls answer, all together. -/
def Tg (sm on tw df fi sc : Bool) (d u v : ByteArray) (r : Int) : Prop :=
  (fi = true ∧ sc = true ∧ df = true ∧ sm = false ∧ on = false ∧ tw = false ∧ r < 0 ∧ d = u) ∨ (fi = true ∧ sc = true ∧ df = true ∧ sm = false ∧ on = false ∧ tw = false ∧ ¬ r < 0 ∧ d = v) ∨ (fi = true ∧ sc = false ∧ df = true ∧ sm = false ∧ on = false ∧ tw = true ∧ d = u) ∨ (fi = false ∧ sc = true ∧ df = true ∧ sm = false ∧ on = true ∧ tw = false ∧ d = v) ∨ (fi = false ∧ sc = false ∧ df = false ∧ sm = true ∧ on = true ∧ tw = true ∧ d = ByteArray.empty)
theorem tg_is {A B : Aut} (G : Good A) (H : Good B) (hk : A.k = B.k) : Tg (eqB A B (sx A B)) (eqB A B (se A B)) (eqB B A (se B A)) (apF (eqO A B (sx A B))) (apF (eqO A B (se A B))) (apF (eqO B A (se B A))) (apS (eqO A B (sx A B))) (apS (eqO A B (se A B))) (apS (eqO B A (se B A))) (ord (apS (eqO A B (se A B))) (apS (eqO B A (se B A)))) := by
  have e1 := ckE_ok G H hk
  have e2 := ckE_ok H G hk.symm
  have o1 : ∀ sh, eqO A B sh = lsh (dd A B) A.k.toNat sh (0, 0) := fun sh => by unfold eqO; rw [if_pos e1]
  have o2 : ∀ sh, eqO B A sh = lsh (dd B A) A.k.toNat sh (0, 0) := fun sh => by unfold eqO; rw [if_pos e2, hk]
  have hk1 := G.k1
  have hk8 := G.k8
  have ow : ∀ u v, Lk A.k.toNat u → Lk A.k.toNat v → (ord (wB u) (wB v) < 0 ↔ ¬ sle v u) := fun u v hu hv => by
    rw [ord_sle (wB_lts hk1 hk8 hu).1 (wB_lts hk1 hk8 hv).1, lets_wB (by omega) hu, lets_wB (by omega) hv]
  unfold Tg eqB
  rw [e1, e2, o1, o1, o2]
  rcases tg A B A.k.toNat with ⟨u, v, q1, q2, q3, q4⟩ | ⟨u, v, q1, q2, q3, q4⟩ | ⟨u, q1, q2, q4⟩ | ⟨v, q1, q2, q4⟩ | ⟨q1, q2, q4⟩
  · rw [q1, q2, q4]
    exact .inl ⟨rfl, rfl, rfl, rfl, rfl, rfl, (ow u v (lsh_is q1).1 (lsh_is q2).1).2 q3, rfl⟩
  · rw [q1, q2, q4]
    exact .inr (.inl ⟨rfl, rfl, rfl, rfl, rfl, rfl, fun z => (ow u v (lsh_is q1).1 (lsh_is q2).1).1 z q3, rfl⟩)
  · rw [q1, q2, q4]
    exact .inr (.inr (.inl ⟨rfl, rfl, rfl, rfl, rfl, rfl, rfl⟩))
  · rw [q1, q2, q4]
    exact .inr (.inr (.inr (.inl ⟨rfl, rfl, rfl, rfl, rfl, rfl, rfl⟩)))
  · rw [q1, q2, q4]
    exact .inr (.inr (.inr (.inr ⟨rfl, rfl, rfl, rfl, rfl, rfl, rfl⟩)))
end Go.Proofs.Ytggheiblgghpkaa
