/- E33 E34 E35 E36 E37 E2, in one text. -/
import Derived.Test.YtflclnkaccbfcaaW1
import Derived.Test.YtflclnkaccbfcaaE6
import Derived.Laws.Bits64b
import Derived.Test.YtflclnkaccbfcaaE1
namespace Go.Proofs.Ytflclnkaccbfcaa
open Go Go.RowKit Go.Lib Go.Maps
set_option linter.unusedVariables false
attribute [-instance] List.instBEq instBEqProd

theorem mck_has (n : Nat) (i : Int) : mck n i = if hasE n i = true then 0 else 11 := by
  unfold mck hasE
  by_cases h : 0 ≤ i ∧ i < n
  · rw [if_pos h, if_pos (decide_eq_true h)]
  · rw [if_neg h, if_neg (by rw [decide_eq_false h]; decide)]

theorem mcheck_is {w : World} {ob : Nat} {A : Aut} {M : List (List Nat)} {N : List Nat} (h : MO w ob A M N) {i : Int} (hi : hasE M.length i = true) : Calls Try.prog 66 #[.pointer (some ⟨ob, 0, none⟩), .int .i64 i] w fun e w' => e = .returned (.int .i64 0) ∧ w = w' := by
  have := mcheck_any h i
  rw [mck_has, if_pos hi] at this
  exact this

theorem mcheck_not {w : World} {ob : Nat} {A : Aut} {M : List (List Nat)} {N : List Nat} (h : MO w ob A M N) {i : Int} (hi : ¬ hasE M.length i = true) : Calls Try.prog 66 #[.pointer (some ⟨ob, 0, none⟩), .int .i64 i] w fun e w' => e = .returned (.int .i64 11) ∧ w = w' := by
  have := mcheck_any h i
  rw [mck_has, if_neg hi] at this
  exact this

set_option maxHeartbeats 1000000 in
set_option maxRecDepth 100000 in
theorem mproduct_all {w : World} {ob : Nat} {A : Aut} {M : List (List Nat)} {N : List Nat} (h : MO w ob A M N) (i j : Int) : Calls Try.prog 65 #[.pointer (some ⟨ob, 0, none⟩), .int .i64 i, .int .i64 j] w fun e w' => e = .returned (rpV A M.length N i j) ∧ Below w.heap.size w w' := by
  have H : Hid (MO w ob A M N) := h
  by_cases h0 : hasE M.length i = true
  · by_cases h1 : hasE M.length j = true
    · obtain ⟨a, rfl, ha⟩ := hasE_of h0
      obtain ⟨b, rfl, hb⟩ := hasE_of h1
      have := mproduct_ok h a b ha hb
      unfold rpV
      rw [if_pos ⟨h0, h1⟩]
      exact this
    · have HE : Hid (rpV A M.length N i j = .tuple #[.int .i64 0, .int .i64 11]) := by show _ = _; unfold rpV; rw [if_neg (fun q => h1 q.2)]
      have C0 : Hid _ := mcheck_is h h0
      have C1 : Hid _ := mcheck_not h h1
      clear h h0 h1
      go_enter Try.func65, Try.ntmps65
      go_wp2_with fail
      refine Calls.mono C0.out ?_
      rintro e w1 ⟨rfl, rfl⟩
      go_wp2_with fail
      refine Calls.mono C1.out ?_
      rintro e w1 ⟨rfl, rfl⟩
      go_wp2_with fail
      go_ret2
      rw [HE.out]
      exact ⟨rfl, Below.refl _ _⟩
  · have HE : Hid (rpV A M.length N i j = .tuple #[.int .i64 0, .int .i64 11]) := by show _ = _; unfold rpV; rw [if_neg (fun q => h0 q.1)]
    have C0 : Hid _ := mcheck_not h h0
    clear h h0
    go_enter Try.func65, Try.ntmps65
    go_wp2_with fail
    refine Calls.mono C0.out ?_
    rintro e w1 ⟨rfl, rfl⟩
    go_wp2_with fail
    go_ret2
    rw [HE.out]
    exact ⟨rfl, Below.refl _ _⟩

/-- Is a byte a letter? -/
def isL (k : Int) (x : Nat) : Prop := 97 ≤ x ∧ (x : Int) < 97 + k

open Classical in

/-- What Right (Left) answers, the document's Beside too. -/
noncomputable def rbV (A : Aut) (n : Nat) (N : List Nat) (i : Int) (x : Nat) (ahead : Bool) : Value := if hasE n i = true then (if isL A.k x then .tuple #[.int .i64 ((if ahead = true then pr A.k.toNat N (N.getD (x - 97) 0) i.toNat else N.getD (i.toNat * A.k.toNat + (x - 97)) 0 : Nat) : Int), .int .i64 0] else .tuple #[.int .i64 0, .int .i64 21]) else .tuple #[.int .i64 0, .int .i64 11]

end Go.Proofs.Ytflclnkaccbfcaa

namespace Go.Proofs.Ytflclnkaccbfcaa
open Go Go.RowKit Go.Lib
set_option linter.unusedVariables false
attribute [-instance] List.instBEq instBEqProd

def sI (M : List (List Nat)) : List Value := M.map fun l => .string (ib l)

def sW (M : List (List Nat)) : List Value := M.map fun l => .string (wb l)

def qN (N : List Nat) : List Value := N.map fun (j : Nat) => .int .i64 (j : Int)

theorem sI_snoc (M : List (List Nat)) (l : List Nat) : sI (M ++ [l]) = sI M ++ [.string (ib l)] := by simp [sI]

theorem sW_snoc (M : List (List Nat)) (l : List Nat) : sW (M ++ [l]) = sW M ++ [.string (wb l)] := by simp [sW]

theorem qN_snoc (N : List Nat) (j : Nat) : qN (N ++ [j]) = qN N ++ [.int .i64 (j : Int)] := by simp [qN]

/-- The document's monoid while it is built. -/
structure RB (base : Nat) (W w : World) (rb : Nat) (A : Aut) (an : Option Addr) (cn : Nat) (aa : Option Addr) (ca : Nat) (M Ws : List (List Nat)) (N : List Nat) (vi vw vn : Value) : Prop where
  box : w.heap[rb]? = some (.cells #[.int .i64 A.k, .slice an A.nx.length cn, .slice aa A.ac.length ca, vi, vw, vn] 112 (0, 0))
  nx : w.ownsRow base 3 1 (.slice an A.nx.length cn) A.nx.length (zC A.nx)
  ac : w.ownsRow base 4 1 (.slice aa A.ac.length ca) A.ac.length (bC A.ac)
  img : w.ownsRow base 9 1 vi M.length (sI M)
  wds : w.ownsRow base 9 1 vw Ws.length (sW Ws)
  nxt : w.ownsRow base 3 1 vn N.length (qN N)
  lo : base ≤ rb
  iw : ∀ j, vi.ownBlock = some j → vw.ownBlock ≠ some j
  nn : ∀ j, vn.ownBlock = some j → (Value.slice an A.nx.length cn).ownBlock ≠ some j
  below : Below base W w
  lob : base ≤ W.heap.size

theorem RB.call {base : Nat} {W w : World} {rb : Nat} {A : Aut} {an : Option Addr} {cn : Nat} {aa : Option Addr} {ca : Nat} {M Ws : List (List Nat)} {N : List Nat} {vi vw vn : Value} {w' : World} (h : RB base W w rb A an cn aa ca M Ws N vi vw vn) (hb : Below w.heap.size w w') : RB base W w' rb A an cn aa ca M Ws N vi vw vn :=
  ⟨(hb.block _ (Array.getElem?_eq_some_iff.1 h.box).1).trans h.box, own_below h.nx hb, own_below h.ac hb, own_below h.img hb, own_below h.wds hb, own_below h.nxt hb, h.lo, h.iw, h.nn, h.below.trans (hb.mono (Nat.le_trans h.lob h.below.size)), h.lob⟩

theorem RB.blk {base : Nat} {W w : World} {rb : Nat} {A : Aut} {an : Option Addr} {cn : Nat} {aa : Option Addr} {ca : Nat} {M Ws : List (List Nat)} {N : List Nat} {vi vw vn : Value} (h : RB base W w rb A an cn aa ca M Ws N vi vw vn) : base ≤ w.heap.size := Nat.le_trans h.lob h.below.size

theorem RB.imgd {base : Nat} {W w : World} {rb : Nat} {A : Aut} {an : Option Addr} {cn : Nat} {aa : Option Addr} {ca : Nat} {M Ws : List (List Nat)} {N : List Nat} {vi vw vn : Value} {w7 : World} {vi' : Value} {l : List Nat} {o : Obj} {q : Nat} (h : RB base W w rb A an cn aa ca M Ws N vi vw vn)
    (ho : w7.ownsRow base 9 1 vi' (M.length + 1) (sI M ++ [.string (ib l)])) (hg : (w.alloc o).grownBy w7 vi.ownBlock) (hl : vi'.ownBlock = vi.ownBlock ∨ vi'.ownBlock = some q) (hq : w.heap.size ≤ q) :
    w7.heap[rb]? = some (.cells #[.int .i64 A.k, .slice an A.nx.length cn, .slice aa A.ac.length ca, vi, vw, vn] 112 (0, 0)) ∧ RB base W (w7.setCell ⟨rb, 3, none⟩ vi') rb A an cn aa ca (M ++ [l]) Ws N vi' vw vn := by
  have hs7 : w.heap.size + 1 ≤ w7.heap.size := by have := (Only.grown (S := fun _ => True) hg (fun _ _ => trivial)).size; simpa using this
  have k : ∀ j, j < w.heap.size → vi.ownBlock ≠ some j → w7.heap[j]? = w.heap[j]? := fun j hj h2 => by
    rw [hg.block j (by simp; omega) (fun e => h2 e.symm), (below_new w o).block j hj]
  have kt : ∀ (j : Nat) (cur : Array Value) (ty : TypeId), w.heap[j]? = some (.cells cur ty (0, 0)) → ty ≠ 9 → w7.heap[j]? = w.heap[j]? := fun j cur ty hj hne => k j (Array.getElem?_eq_some_iff.1 hj).1 (fun e => by
    obtain ⟨_, cur, hc⟩ := own_blk h.img e
    exact blk_ne hj hc hne rfl)
  have box7 := (kt rb _ _ h.box (by decide)).trans h.box
  have so : ∀ (j : Nat) (cur : Array Value) {ty : TypeId}, w7.heap[j]? = some (.cells cur ty (0, 0)) → ty ≠ 112 → (w7.setCell ⟨rb, 3, none⟩ vi').heap[j]? = w7.heap[j]? := fun j cur ty hj hne => heap_set_other (fun e => by
    exact blk_ne hj box7 hne e)
  refine ⟨box7, heap_set box7, ?_, ?_, ?_, ?_, ?_, h.lo, ?_, ?_, ?_, h.lob⟩
  · exact own_keep (own_keep h.nx (fun j cur hj hc => kt j _ _ hc (by decide))) (fun j cur hj hc => so j _ hc (by decide))
  · exact own_keep (own_keep h.ac (fun j cur hj hc => kt j _ _ hc (by decide))) (fun j cur hj hc => so j _ hc (by decide))
  · rw [List.length_append, sI_snoc]
    exact own_keep ho (fun j cur hj hc => so j _ hc (by decide))
  · refine own_keep (own_keep h.wds (fun j cur hj hc => k j (Array.getElem?_eq_some_iff.1 hc).1 (fun e => h.iw _ e hj))) (fun j cur hj hc => so j _ hc (by decide))
  · exact own_keep (own_keep h.nxt (fun j cur hj hc => kt j _ _ hc (by decide))) (fun j cur hj hc => so j _ hc (by decide))
  · intro j hj
    rcases hl with r | r
    · exact h.iw j (r.symm.trans hj)
    · intro e
      have := (h.wds.lt j e).2
      rw [r] at hj
      simp only [Option.some.injEq] at hj
      omega
  · exact h.nn
  · have hb := h.below
    have hbb := h.blk
    exact (((hb.alloc hbb o).grown hg (by have := hb.size; simp; omega) (fun j hj => (h.img.lt j hj).1))).setCell (p := ⟨rb, 3, none⟩) h.lo _

theorem RB.wdsd {base : Nat} {W w : World} {rb : Nat} {A : Aut} {an : Option Addr} {cn : Nat} {aa : Option Addr} {ca : Nat} {M Ws : List (List Nat)} {N : List Nat} {vi vw vn : Value} {w7 : World} {vw' : Value} {l : List Nat} {o : Obj} {q : Nat} (h : RB base W w rb A an cn aa ca M Ws N vi vw vn)
    (ho : w7.ownsRow base 9 1 vw' (Ws.length + 1) (sW Ws ++ [.string (wb l)])) (hg : (w.alloc o).grownBy w7 vw.ownBlock) (hl : vw'.ownBlock = vw.ownBlock ∨ vw'.ownBlock = some q) (hq : w.heap.size ≤ q) :
    w7.heap[rb]? = some (.cells #[.int .i64 A.k, .slice an A.nx.length cn, .slice aa A.ac.length ca, vi, vw, vn] 112 (0, 0)) ∧ RB base W (w7.setCell ⟨rb, 4, none⟩ vw') rb A an cn aa ca M (Ws ++ [l]) N vi vw' vn := by
  have hs7 : w.heap.size + 1 ≤ w7.heap.size := by have := (Only.grown (S := fun _ => True) hg (fun _ _ => trivial)).size; simpa using this
  have k : ∀ j, j < w.heap.size → vw.ownBlock ≠ some j → w7.heap[j]? = w.heap[j]? := fun j hj h2 => by
    rw [hg.block j (by simp; omega) (fun e => h2 e.symm), (below_new w o).block j hj]
  have kt : ∀ (j : Nat) (cur : Array Value) (ty : TypeId), w.heap[j]? = some (.cells cur ty (0, 0)) → ty ≠ 9 → w7.heap[j]? = w.heap[j]? := fun j cur ty hj hne => k j (Array.getElem?_eq_some_iff.1 hj).1 (fun e => by
    obtain ⟨_, cur, hc⟩ := own_blk h.wds e
    exact blk_ne hj hc hne rfl)
  have box7 := (kt rb _ _ h.box (by decide)).trans h.box
  have so : ∀ (j : Nat) (cur : Array Value) {ty : TypeId}, w7.heap[j]? = some (.cells cur ty (0, 0)) → ty ≠ 112 → (w7.setCell ⟨rb, 4, none⟩ vw').heap[j]? = w7.heap[j]? := fun j cur ty hj hne => heap_set_other (fun e => by
    exact blk_ne hj box7 hne e)
  refine ⟨box7, heap_set box7, ?_, ?_, ?_, ?_, ?_, h.lo, ?_, ?_, ?_, h.lob⟩
  · exact own_keep (own_keep h.nx (fun j cur hj hc => kt j _ _ hc (by decide))) (fun j cur hj hc => so j _ hc (by decide))
  · exact own_keep (own_keep h.ac (fun j cur hj hc => kt j _ _ hc (by decide))) (fun j cur hj hc => so j _ hc (by decide))
  · refine own_keep (own_keep h.img (fun j cur hj hc => k j (Array.getElem?_eq_some_iff.1 hc).1 (fun e => h.iw _ hj e))) (fun j cur hj hc => so j _ hc (by decide))
  · rw [List.length_append, sW_snoc]
    exact own_keep ho (fun j cur hj hc => so j _ hc (by decide))
  · exact own_keep (own_keep h.nxt (fun j cur hj hc => kt j _ _ hc (by decide))) (fun j cur hj hc => so j _ hc (by decide))
  · intro j hj e
    rcases hl with r | r
    · exact h.iw j hj (r.symm.trans e)
    · have := (h.img.lt j hj).2
      rw [r] at e
      simp only [Option.some.injEq] at e
      omega
  · exact h.nn
  · have hb := h.below
    have hbb := h.blk
    exact (((hb.alloc hbb o).grown hg (by have := hb.size; simp; omega) (fun j hj => (h.wds.lt j hj).1))).setCell (p := ⟨rb, 4, none⟩) h.lo _

theorem RB.nxtd {base : Nat} {W w : World} {rb : Nat} {A : Aut} {an : Option Addr} {cn : Nat} {aa : Option Addr} {ca : Nat} {M Ws : List (List Nat)} {N : List Nat} {vi vw vn : Value} {w7 : World} {vn' : Value} {l : Nat} {o : Obj} {q : Nat} (h : RB base W w rb A an cn aa ca M Ws N vi vw vn)
    (ho : w7.ownsRow base 3 1 vn' (N.length + 1) (qN N ++ [.int .i64 (l : Int)])) (hg : (w.alloc o).grownBy w7 vn.ownBlock) (hl : vn'.ownBlock = vn.ownBlock ∨ vn'.ownBlock = some q) (hq : w.heap.size ≤ q) :
    w7.heap[rb]? = some (.cells #[.int .i64 A.k, .slice an A.nx.length cn, .slice aa A.ac.length ca, vi, vw, vn] 112 (0, 0)) ∧ RB base W (w7.setCell ⟨rb, 5, none⟩ vn') rb A an cn aa ca M Ws (N ++ [l]) vi vw vn' := by
  have hs7 : w.heap.size + 1 ≤ w7.heap.size := by have := (Only.grown (S := fun _ => True) hg (fun _ _ => trivial)).size; simpa using this
  have k : ∀ j, j < w.heap.size → vn.ownBlock ≠ some j → w7.heap[j]? = w.heap[j]? := fun j hj h2 => by
    rw [hg.block j (by simp; omega) (fun e => h2 e.symm), (below_new w o).block j hj]
  have kt : ∀ (j : Nat) (cur : Array Value) (ty : TypeId), w.heap[j]? = some (.cells cur ty (0, 0)) → ty ≠ 3 → w7.heap[j]? = w.heap[j]? := fun j cur ty hj hne => k j (Array.getElem?_eq_some_iff.1 hj).1 (fun e => by
    obtain ⟨_, cur, hc⟩ := own_blk h.nxt e
    exact blk_ne hj hc hne rfl)
  have box7 := (kt rb _ _ h.box (by decide)).trans h.box
  have so : ∀ (j : Nat) (cur : Array Value) {ty : TypeId}, w7.heap[j]? = some (.cells cur ty (0, 0)) → ty ≠ 112 → (w7.setCell ⟨rb, 5, none⟩ vn').heap[j]? = w7.heap[j]? := fun j cur ty hj hne => heap_set_other (fun e => by
    exact blk_ne hj box7 hne e)
  refine ⟨box7, heap_set box7, ?_, ?_, ?_, ?_, ?_, h.lo, ?_, ?_, ?_, h.lob⟩
  · refine own_keep (own_keep h.nx (fun j cur hj hc => k j (Array.getElem?_eq_some_iff.1 hc).1 (fun e => h.nn _ e hj))) (fun j cur hj hc => so j _ hc (by decide))
  · exact own_keep (own_keep h.ac (fun j cur hj hc => kt j _ _ hc (by decide))) (fun j cur hj hc => so j _ hc (by decide))
  · exact own_keep (own_keep h.img (fun j cur hj hc => kt j _ _ hc (by decide))) (fun j cur hj hc => so j _ hc (by decide))
  · exact own_keep (own_keep h.wds (fun j cur hj hc => kt j _ _ hc (by decide))) (fun j cur hj hc => so j _ hc (by decide))
  · rw [List.length_append, qN_snoc]
    exact own_keep ho (fun j cur hj hc => so j _ hc (by decide))
  · exact h.iw
  · intro j hj e
    rcases hl with r | r
    · exact h.nn j (r.symm.trans hj) e
    · have := (h.nx.lt j e).2
      rw [r] at hj
      simp only [Option.some.injEq] at hj
      omega
  · have hb := h.below
    have hbb := h.blk
    exact (((hb.alloc hbb o).grown hg (by have := hb.size; simp; omega) (fun j hj => (h.nxt.lt j hj).1))).setCell (p := ⟨rb, 5, none⟩) h.lo _

end Go.Proofs.Ytflclnkaccbfcaa

namespace Go.Proofs.Ytflclnkaccbfcaa
open Go Go.RowKit Go.Lib
set_option linter.unusedVariables false
attribute [-instance] List.instBEq instBEqProd

theorem ib_size (l : List Nat) : (ib l).size = l.length := by
  show (l.map fun s => UInt8.ofNat s).toArray.size = l.length
  simp

theorem ib_inj {l m : List Nat} (hl : ∀ x ∈ l, x < 256) (hm : ∀ x ∈ m, x < 256) (h : ib l = ib m) : l = m := by
  have h1 : (l.map fun s => UInt8.ofNat s) = (m.map fun s => UInt8.ofNat s) := by
    have := congrArg (fun b => b.data.toList) h
    simpa [ib] using this
  have h2 : ∀ k : List Nat, (∀ x ∈ k, x < 256) → (k.map fun s => UInt8.ofNat s).map (fun c => c.toNat) = k := fun k hk => by
    rw [List.map_map]
    conv => rhs; rw [← List.map_id k]
    apply List.map_congr_left
    intro x hx
    show (UInt8.ofNat x).toNat = x
    rw [UInt8.toNat_ofNat']
    exact Nat.mod_eq_of_lt (hk x hx)
  rw [← h2 l hl, ← h2 m hm, h1]

theorem idxOf_firstL {l : List (List Nat)} {j : List Nat} {p : Nat} (hp : l[p]? = some j) (hq : ∀ q, q < p → l[q]? ≠ some j) : l.idxOf j = p := by
  induction l generalizing p with
  | nil => simp at hp
  | cons a l ih =>
    cases p with
    | zero =>
      simp at hp
      subst hp
      exact List.idxOf_cons_self
    | succ p =>
      have hne : a ≠ j := fun e => hq 0 (by omega) (by simp [e])
      rw [List.idxOf_cons]
      have : (a == j) = false := by rw [beq_eq_false_iff_ne]; exact hne
      rw [this]
      simp only [cond_false]
      rw [ih (p := p) (by simpa using hp) (fun q h => by have := hq (q + 1) (by omega); simpa using this)]

set_option maxHeartbeats 4000000 in
set_option maxRecDepth 100000 in
theorem rfind_any {base : Nat} {W w : World} {rb : Nat} {A : Aut} {an : Option Addr} {cn : Nat} {aa : Option Addr} {ca : Nat} {M Ws : List (List Nat)} {N : List Nat} {vi vw vn : Value} (h : RB base W w rb A an cn aa ca M Ws N vi vw vn) (l : List Nat) (hM : ∀ m ∈ M, ∀ x ∈ m, x < 256) (hl : ∀ x ∈ l, x < 256) (hn : M.length ≤ 512) :
    Calls Try.prog 70 #[.pointer (some ⟨rb, 0, none⟩), .string (ib l)] w fun e w' => e = .returned (.int .i64 (M.idxOf l : Nat)) ∧ w = w' := by
  obtain ⟨gi, ci, rfl⟩ := own_shape h.img
  have HC : Hid (∀ j, j < M.length → ∃ g o, gi = some ⟨g, o, none⟩ ∧ w.cell? ⟨g, o + j, none⟩ = some (.string (ib (M.getD j [])))) := fun j hj => by
    obtain ⟨g, o, e, _, hc⟩ := own_sr h.img j (.string (ib (M.getD j []))) (by unfold sI; rw [List.getElem?_map, List.getElem?_eq_getElem hj, List.getD_eq_getElem?_getD, List.getElem?_eq_getElem hj]; rfl)
    exact ⟨g, o, e, hc⟩
  have c3 : w.cell? ⟨rb, 3, none⟩ = some (.slice gi M.length ci) := cell_at h.box rfl
  have HMM : Hid (∀ m ∈ M, ∀ x ∈ m, x < 256) := hM
  have HL : Hid (∀ x ∈ l, x < 256) := hl
  obtain ⟨T, hT⟩ : ∃ T, ib l = T := ⟨_, rfl⟩
  have HT : Hid (ib l = T) := hT
  rw [hT]
  clear h hM hl hT
  go_enter Try.func70, Try.ntmps70
  go_wp2_with fail
  go_loopw [5] (fun vq wr => ∃ q : Nat, vq = .int .i64 q ∧ q ≤ M.length ∧ (∀ p, p < q → M.getD p [] ≠ l) ∧ wr = w) (fun vq _ => M.length - (Go.Lib.intOf vq).toNat)
  case atStart => exact ⟨0, rfl, Nat.zero_le _, fun p hp => absurd hp (by omega), rfl⟩
  case round =>
    obtain ⟨q, rfl, hqM, hall, rfl⟩ := hrel
    have HA : Hid (∀ p, p < q → M.getD p [] ≠ l) := hall
    clear hall
    by_cases hlt : q < M.length
    · have hqI : (q : Int) < M.length := by omega
      have hqd : decide ((q : Int) < M.length) = true := decide_eq_true hqI
      obtain ⟨g, o, rfl, hc⟩ := HC.out q hlt
      obtain ⟨X, hX⟩ : ∃ X, ib (M.getD q []) = X := ⟨_, rfl⟩
      have HX : Hid (ib (M.getD q []) = X) := hX
      rw [hX] at hc
      clear hX
      by_cases he : M.getD q [] = l
      · have hXT : X = T := by rw [← HX.out, ← HT.out, he]
        subst hXT
        have HI : Hid (M.idxOf l = q) := by
          show _ = _
          refine idxOf_firstL (by rw [List.getElem?_eq_getElem hlt, ← he, List.getD_eq_getElem?_getD, List.getElem?_eq_getElem hlt]; rfl) (fun p hp e => HA.out p hp ?_)
          rw [List.getD_eq_getElem?_getD, e]
          rfl
        go_wp2_with fail
        go_ret
        exact ⟨by rw [HI.out]; rfl, rfl⟩
      · have hXT : X ≠ T := fun e => he (ib_inj (fun x hx => HMM.out _ (by rw [List.getD_eq_getElem?_getD, List.getElem?_eq_getElem hlt]; exact List.getElem_mem hlt) x hx) HL.out (by rw [HX.out, HT.out, e]))
        have hXb : @BEq.beq _ List.instBEq X.toList T.toList = false := by
          refine (@beq_eq_false_iff_ne (List UInt8) List.instBEq inferInstance X.toList T.toList).2 ?_
          intro e
          rw [ByteArray.toList_eq, ByteArray.toList_eq] at e
          exact hXT (ByteArray.ext (Array.toList_inj.1 e))
        have HN : Hid (∀ p, p < q + 1 → M.getD p [] ≠ l) := fun p hp => by
          by_cases e : p = q
          · subst e; exact he
          · exact HA.out p (by omega)
        go_wp2_with fail
        go_roundw
        case rel => exact ⟨q + 1, by go_num, by omega, HN.out, by trivial⟩
        case measure => simp [Go.Lib.intOf]; omega
    · have hqI : ¬ (q : Int) < M.length := by omega
      have hqd : decide ((q : Int) < M.length) = false := decide_eq_false hqI
      have HI : Hid (M.idxOf l = q) := by
        show _ = _
        have hq : q = M.length := by omega
        rw [hq]
        refine List.idxOf_eq_length (fun hm => ?_)
        obtain ⟨p, hp⟩ := List.mem_iff_getElem?.1 hm
        have hpl := (List.getElem?_eq_some_iff.1 hp).1
        exact HA.out p (by omega) (by rw [List.getD_eq_getElem?_getD, hp]; rfl)
      go_wp2_with fail
      go_ret
      exact ⟨by rw [HI.out]; rfl, rfl⟩

end Go.Proofs.Ytflclnkaccbfcaa

namespace Go.Proofs.Ytflclnkaccbfcaa
open Go Go.RowKit Go.Lib Go.Maps
set_option linter.unusedVariables false
attribute [-instance] List.instBEq instBEqProd

theorem ib_get {l : List Nat} {j : Nat} (hj : j < (ib l).size) (hx : ∀ x ∈ l, x < 256) : ((ib l)[j]).toNat = im l j := by
  have hj' : j < ((l.map fun s => UInt8.ofNat s).toArray).size := hj
  have hl : j < l.length := by simpa using hj'
  have : (ib l)[j].toNat = (((l.map fun s => UInt8.ofNat s).toArray)[j]'hj').toNat := rfl
  refine this.trans ?_
  rw [List.getElem_toArray, List.getElem_map, UInt8.toNat_ofNat', Nat.mod_eq_of_lt (hx _ (List.getElem_mem hl))]
  unfold im
  rw [List.getD_eq_getElem?_getD, List.getElem?_eq_getElem hl]
  rfl

theorem Mon.byte {A : Aut} {M : List (List Nat)} {N : List Nat} (h : Mon A M N) {i : Nat} (hi : i < M.length) : (M.getD i []).length = A.ac.length ∧ (∀ x ∈ M.getD i [], x < A.ac.length) ∧ A.ac.length ≤ 64 := by
  have he := List.getElem?_eq_getElem hi
  rw [getD_of he]
  obtain ⟨t1, t2⟩ := h.tf he
  refine ⟨t2, fun x hx => ?_, h.n64⟩
  obtain ⟨p, hp⟩ := List.mem_iff_getElem?.1 hx
  have hpl := (List.getElem?_eq_some_iff.1 hp).1
  have := t1.lt p hpl
  unfold im at this
  rw [getD_of hp] at this
  omega

/-- The power by squaring: o times i^n. -/
def pwE (K : Nat) (N : List Nat) (o i n : Nat) : Nat := if h : n = 0 then o else pwE K N (if n % 2 = 1 then pr K N o i else o) (pr K N i i) (n / 2)
termination_by n
decreasing_by omega

theorem pwE_zero (K : Nat) (N : List Nat) (o i : Nat) : pwE K N o i 0 = o := by rw [pwE, dif_pos rfl]

theorem pwE_odd {K : Nat} {N : List Nat} {o i n : Nat} (h : n % 2 = 1) : pwE K N o i n = pwE K N (pr K N o i) (pr K N i i) (n / 2) := by rw [pwE, dif_neg (by omega), if_pos h]

theorem pwE_even {K : Nat} {N : List Nat} {o i n : Nat} (h0 : n ≠ 0) (h : n % 2 ≠ 1) : pwE K N o i n = pwE K N o (pr K N i i) (n / 2) := by rw [pwE, dif_neg h0, if_neg h]

end Go.Proofs.Ytflclnkaccbfcaa

namespace Go.Proofs.Ytflclnkaccbfcaa
open Go Go.RowKit Go.Lib Go.Maps
set_option linter.unusedVariables false
attribute [-instance] List.instBEq instBEqProd

set_option maxHeartbeats 1000000 in
set_option maxRecDepth 100000 in
theorem mpower_not {w : World} {ob : Nat} {A : Aut} {M : List (List Nat)} {N : List Nat} (h : MO w ob A M N) {i : Int} (hi : ¬ hasE M.length i = true) (n : Nat) : Calls Try.prog 37 #[.pointer (some ⟨ob, 0, none⟩), .int .i64 i, .int .u64 n] w fun e w' => e = .returned (.tuple #[.int .i64 0, .int .i64 11]) ∧ w = w' := by
  have C0 : Hid _ := mcheck_not h hi
  clear h hi
  go_enter Try.func37, Try.ntmps37
  go_wp2_with fail
  refine Calls.mono C0.out ?_
  rintro e w1 ⟨rfl, rfl⟩
  go_wp2_with fail
  go_ret2
  exact ⟨rfl, rfl⟩

/-- The products' table is read. -/
theorem mgrid_ok {w : World} {ob : Nat} {A : Aut} {M : List (List Nat)} {N : List Nat} (h : MO w ob A M N) : ∃ R d n c : Nat, w.cell? ⟨ob, 11, none⟩ = some (.int .i64 (n : Int)) ∧ w.cell? ⟨ob, 12, none⟩ = some (.slice (some ⟨R, d, none⟩) c c) ∧ ∀ y i j, Below w.heap.size w y → i < M.length → j < M.length → Calls Try.prog 67 #[.agg #[.int .i64 (n : Int), .slice (some ⟨R, d, none⟩) c c], .int .i64 (i : Nat), .int .i64 (j : Nat)] y fun e w' => e = .returned (.int .i64 (pr A.k.toNat N i j : Nat)) ∧ Below y.heap.size y w' := by
  obtain ⟨base, bt, b, mb, gw, ga, R, n, a, c, d, vl, D, an, cn, aa, ca, h⟩ := h
  refine ⟨R, d, n, c, cell_at h.box rfl, cell_at h.box rfl, fun y i j hy hi hj => ?_⟩
  have hnm := h.num
  have hms := h.mon.most
  have hcell := h.rt.prod (i := i) (j := j) (by omega) (by omega) trivial
  rw [hnm.2.1, hnm.2.2.2] at hcell
  have hp := h.mon.pr_lt hi hj
  have hn2 : n * n ≤ 512 * 512 := Nat.mul_le_mul (by omega) (by omega)
  refine gat_any R d n i j c c (i * n) (pr A.k.toNat N i j) rfl ?_ (by omega) (by omega) y ?_ (Nat.lt_of_lt_of_le h.rt.lt hy.size)
  · rw [← hnm.2.2.1]; exact idx_lt (by omega) (by omega)
  · rw [below_cellJ hy h.rt.lt]
    exact hcell

set_option maxHeartbeats 2000000 in
set_option maxRecDepth 100000 in
theorem mpower_ok {w : World} {ob : Nat} {A : Aut} {M : List (List Nat)} {N : List Nat} (h : MO w ob A M N) (i : Nat) (hi : i < M.length) (n : Nat) (hn : n < 18446744073709551616) : Calls Try.prog 37 #[.pointer (some ⟨ob, 0, none⟩), .int .i64 i, .int .u64 n] w fun e w' => e = .returned (.tuple #[.int .i64 (pwE A.k.toNat N 0 i n : Nat), .int .i64 0]) ∧ Below w.heap.size w w' := by
  have H : Hid (MO w ob A M N) := h
  have C0 : Hid (Calls Try.prog 66 #[.pointer (some ⟨ob, 0, none⟩), .int .i64 (i : Int)] w fun e w' => e = .returned (.int .i64 0) ∧ w = w') := mcheck_is h (decide_eq_true ⟨by omega, by omega⟩)
  obtain ⟨R, d, m, c, k1, k2, k3⟩ := mgrid_ok h
  have HK : Hid (∀ y, Below w.heap.size w y → y.cell? ⟨ob, 11, none⟩ = some (.int .i64 (m : Int)) ∧ y.cell? ⟨ob, 12, none⟩ = some (.slice (some ⟨R, d, none⟩) c c)) := fun y hy => by
    have hlt : ob < w.heap.size := World.block_lt_of_cell? w ⟨ob, 11, none⟩ k1
    exact ⟨by rw [below_cellJ hy hlt]; exact k1, by rw [below_cellJ hy hlt]; exact k2⟩
  have HG : Hid (∀ y i j, Below w.heap.size w y → i < M.length → j < M.length → Calls Try.prog 67 #[.agg #[.int .i64 (m : Int), .slice (some ⟨R, d, none⟩) c c], .int .i64 (i : Nat), .int .i64 (j : Nat)] y fun e w' => e = .returned (.int .i64 (pr A.k.toNat N i j : Nat)) ∧ Below y.heap.size y w') := k3
  obtain ⟨_, _, _, _, _, _, _, _, _, _, _, _, _, _, _, _, _, h0⟩ := h
  have HMon : Hid (Mon A M N) := h0.mon
  clear h0 k1 k2 k3
  go_enter Try.func37, Try.ntmps37
  go_wp2_with fail
  refine C0.out.mono ?_
  rintro e w1 ⟨rfl, rfl⟩
  go_wp2_with fail
  go_loopw [2, 9, 10] (fun vn vo vi wr => ∃ i' n' o : Nat, vi = .int .i64 i' ∧ vn = .int .u64 n' ∧ vo = .int .i64 o ∧ i' < M.length ∧ o < M.length ∧ n' < 18446744073709551616 ∧ pwE A.k.toNat N o i' n' = pwE A.k.toNat N 0 i n ∧ Below w.heap.size w wr) (fun vn _ _ _ => (Go.Lib.intOf vn).toNat)
  case atStart => exact ⟨i, n, 0, rfl, rfl, rfl, hi, HMon.out.pos, hn, rfl, Below.refl _ _⟩
  case round =>
    obtain ⟨i', n', o, rfl, rfl, rfl, hi', ho, hn', he, hb⟩ := hrel
    have HB : Hid (Below w.heap.size w wr) := hb
    have HE : Hid (pwE A.k.toNat N o i' n' = pwE A.k.toNat N 0 i n) := he
    have cs := HK.out wr hb
    clear hb he
    by_cases h0 : n' = 0
    · subst h0
      go_wp2_with fail
      go_ret2
      exact ⟨by rw [← HE.out, pwE_zero]; rfl, HB.out⟩
    · have h0I : (0 : Int) < n' := by omega
      have hand : bits .and .u64 (n' : Int) 1 = ((n' % 2 : Nat) : Int) := by
        have := bits_and_u64_nat n' 1 hn' (by decide)
        rw [Nat.and_one_is_mod] at this
        exact this
      have HDV : Hid ((n' : Int) / 2 = ((n' / 2 : Nat) : Int)) := by show _ = _; omega
      have HD : Hid (n' / 2 < n' ∧ n' / 2 < 18446744073709551616) := ⟨by omega, by omega⟩
      have HO : Hid (o < M.length ∧ i' < M.length) := ⟨ho, hi'⟩
      by_cases hodd : n' % 2 = 1
      · rw [hodd] at hand
        have HN : Hid (pwE A.k.toNat N (pr A.k.toNat N o i') (pr A.k.toNat N i' i') (n' / 2) = pwE A.k.toNat N 0 i n) := by show _ = _; rw [← HE.out, pwE_odd hodd]
        clear hodd
        go_wp2_with fail
        refine (HG.out _ o i' HB.out HO.out.1 HO.out.2).mono ?_
        rintro e y1 ⟨rfl, hb⟩
        have HB1 : Hid (Below w.heap.size w y1) := go_on HB.out hb
        have cs1 := HK.out y1 HB1.out
        clear hb
        go_wp2_with fail
        refine (HG.out _ i' i' HB1.out HO.out.2 HO.out.2).mono ?_
        rintro e y2 ⟨rfl, hb⟩
        have HB2 : Hid (Below w.heap.size w y2) := go_on HB1.out hb
        clear hb
        go_wp2_with fail
        go_roundw
        case rel => exact ⟨_, n' / 2, _, rfl, by rw [← HDV.out] <;> simp, rfl, HMon.out.pr_lt HO.out.2 HO.out.2, HMon.out.pr_lt HO.out.1 HO.out.2, HD.out.2, HN.out, HB2.out⟩
        case measure => have := HD.out; simp [Go.Lib.intOf]; omega
      · have hev : n' % 2 = 0 := by omega
        rw [hev] at hand
        have HN : Hid (pwE A.k.toNat N (o) (pr A.k.toNat N i' i') (n' / 2) = pwE A.k.toNat N 0 i n) := by show _ = _; rw [← HE.out, pwE_even h0 hodd]
        clear hodd
        go_wp2_with fail
        have HB1 : Hid (Below w.heap.size w wr) := HB.out
        refine (HG.out _ i' i' HB1.out HO.out.2 HO.out.2).mono ?_
        rintro e y2 ⟨rfl, hb⟩
        have HB2 : Hid (Below w.heap.size w y2) := go_on HB1.out hb
        clear hb
        go_wp2_with fail
        go_roundw
        case rel => exact ⟨_, n' / 2, _, rfl, by rw [← HDV.out] <;> simp, rfl, HMon.out.pr_lt HO.out.2 HO.out.2, HO.out.1, HD.out.2, HN.out, HB2.out⟩
        case measure => have := HD.out; simp [Go.Lib.intOf]; omega

end Go.Proofs.Ytflclnkaccbfcaa

namespace Go.Proofs.Ytflclnkaccbfcaa
set_option linter.unusedVariables false

/-- First places rise. -/
theorem Mon.first {A : Aut} {M : List (List Nat)} {N : List Nat} (h : Mon A M N) {j : Nat} (h0 : 0 < j) (hj : j < M.length) : N[N.idxOf j]? = some j ∧ N.idxOf j / A.k.toNat < j ∧ ∀ q i, q < N.idxOf j → N[q]? = some i → i < j := by
  obtain ⟨p, hp, hq, hr⟩ := h.bi.fresh j h0 hj
  have e := idxOf_first hp (fun q hqp e => by have := hr q j hqp e; omega)
  rw [e]
  exact ⟨hp, hq, hr⟩
theorem slt_trans {u v w : List Nat} (h : slt u v) (g : slt v w) : slt u w := by
  refine ⟨sle_trans h.1 g.1, fun e => ?_⟩
  subst e
  exact h.2 (sle_anti h.1 g.1)
theorem slt_le {u v w : List Nat} (h : slt u v) (g : sle v w) : slt u w := by
  refine ⟨sle_trans h.1 g, fun e => ?_⟩
  subst e
  exact h.2 (sle_anti h.1 g)
theorem Mon.rise {A : Aut} {M : List (List Nat)} {N : List Nat} (h : Mon A M N) : ∀ j, j < M.length → ∀ i, i < j → slt (Go.Proofs.Ytflclnkaccbfcaa.lw A.k.toNat N i) (Go.Proofs.Ytflclnkaccbfcaa.lw A.k.toNat N j) := by
  intro j
  induction j using Nat.strongRecOn with
  | _ j ih =>
    intro hj i hij
    obtain ⟨a1, a2, a3⟩ := h.first (by omega) hj
    rw [lw_step h.fst (s := j) (by omega) hj]
    by_cases e : i = 0
    · subst e
      rw [lw_zero]
      exact slt_nil _ _
    · obtain ⟨b1, b2, b3⟩ := h.first (j := i) (by omega) (by omega)
      have hlt : N.idxOf i < N.idxOf j := by
        by_cases q : N.idxOf i < N.idxOf j
        · exact q
        · by_cases q2 : N.idxOf i = N.idxOf j
          · rw [q2, a1] at b1; simp at b1; omega
          · have := b3 _ _ (show N.idxOf j < N.idxOf i by omega) a1
            omega
      rw [lw_step h.fst (s := i) (by omega) (by omega)]
      have hd : N.idxOf i / A.k.toNat ≤ N.idxOf j / A.k.toNat := Nat.div_le_div_right (Nat.le_of_lt hlt)
      by_cases c : N.idxOf i / A.k.toNat = N.idxOf j / A.k.toNat
      · rw [c]
        apply slt_letter
        have e1 := Nat.div_add_mod (N.idxOf i) A.k.toNat
        have e2 := Nat.div_add_mod (N.idxOf j) A.k.toNat
        rw [c] at e1
        omega
      · exact slt_snoc (ih _ a2 (by omega) _ (by omega)) _ _
/-- A letter behind an element: no later word. -/
theorem Mon.step_le {A : Aut} {M : List (List Nat)} {N : List Nat} (h : Mon A M N) {x c : Nat} (hx : x < M.length) (hc : c < A.k.toNat) : sle (Go.Proofs.Ytflclnkaccbfcaa.lw A.k.toNat N (N.getD (x * A.k.toNat + c) 0)) (Go.Proofs.Ytflclnkaccbfcaa.lw A.k.toNat N x ++ [c]) := by
  obtain ⟨l, _, h2, hp⟩ := h.at hx hc
  obtain ⟨j, hj⟩ : ∃ j, N.getD (x * A.k.toNat + c) 0 = j := ⟨_, rfl⟩
  rw [hj] at h2 ⊢
  have hjl := (List.getElem?_eq_some_iff.1 h2).1
  by_cases e : j = 0
  · subst e; rw [lw_zero]; exact sle_nil _
  · obtain ⟨a1, a2, a3⟩ := h.first (j := j) (by omega) hjl
    have hle : N.idxOf j ≤ x * A.k.toNat + c := by
      by_cases q : N.idxOf j ≤ x * A.k.toNat + c
      · exact q
      · have hn : N[x * A.k.toNat + c]? = some j := by rw [← hj, List.getElem?_eq_getElem hp, getD_of (List.getElem?_eq_getElem hp)]
        have := a3 _ _ (by omega) hn
        omega
    rw [lw_step h.fst (s := j) (by omega) hjl]
    have e1 : (x * A.k.toNat + c) / A.k.toNat = x := by rw [Nat.mul_comm, Nat.mul_add_div (by omega), Nat.div_eq_of_lt hc]; rfl
    have e2 : (x * A.k.toNat + c) % A.k.toNat = c := by rw [Nat.mul_comm, Nat.mul_add_mod, Nat.mod_eq_of_lt hc]
    have hd : N.idxOf j / A.k.toNat ≤ x := by rw [← e1]; exact Nat.div_le_div_right hle
    by_cases q : N.idxOf j / A.k.toNat = x
    · rw [q]
      have e3 := Nat.div_add_mod (N.idxOf j) A.k.toNat
      rw [q] at e3
      by_cases q2 : N.idxOf j % A.k.toNat = c
      · rw [q2]; exact sle_refl _
      · refine (slt_letter _ ?_).1
        have : A.k.toNat * x = x * A.k.toNat := Nat.mul_comm _ _
        omega
    · exact (slt_snoc (h.rise x hx _ (by omega)) _ _).1
theorem snoc_ind {p : List Nat → Prop} (h0 : p []) (h1 : ∀ u c, p u → p (u ++ [c])) : ∀ u, p u := by
  intro u
  have : ∀ n u, u.length = n → p u := by
    intro n
    induction n with
    | zero => intro u hu; rw [List.length_eq_zero_iff.1 hu]; exact h0
    | succ n ih =>
      intro u hu
      have hne : u ≠ [] := by intro e; rw [e] at hu; simp at hu
      rw [← List.dropLast_concat_getLast hne]
      exact h1 _ _ (ih _ (by simp; omega))
  exact this _ u rfl
/-- No word ahead of an element's least word has that element. -/
theorem Mon.least {A : Aut} {M : List (List Nat)} {N : List Nat} (h : Mon A M N) : ∀ u, Lt A.k.toNat u → sle (Go.Proofs.Ytflclnkaccbfcaa.lw A.k.toNat N (mr A.k.toNat N 0 u)) u := by
  apply snoc_ind
  · intro _
    rw [mr_nil, lw_zero]
    exact sle_refl _
  · intro u c ih hu
    have := ih hu.left
    rw [mr_app, mr_one]
    exact sle_trans (h.step_le (h.lt hu.left h.pos) (hu.right c (by simp))) (sle_app this _)
theorem lxl_pre (a : List Nat) : ∀ {u v : List Nat}, lxl u v → lxl (a ++ u) (a ++ v) := by
  intro u v h
  exact lxl_app u v rfl (lxl_refl a) (fun _ => h)
theorem sle_pre (a : List Nat) {u v : List Nat} (h : sle u v) : sle (a ++ u) (a ++ v) := by
  rcases h with h | ⟨h, g⟩
  · exact .inl (by simp; omega)
  · exact .inr ⟨by simp; omega, lxl_pre a g⟩
/-- Pieces of least words are least words. -/
theorem Mon.piece {A : Aut} {M : List (List Nat)} {N : List Nat} (h : Mon A M N) {x : Nat} (hx : x < M.length) {a b c : List Nat} (e : Go.Proofs.Ytflclnkaccbfcaa.lw A.k.toNat N x = a ++ b ++ c) : Go.Proofs.Ytflclnkaccbfcaa.lw A.k.toNat N (mr A.k.toNat N 0 b) = b := by
  obtain ⟨hl, hw⟩ := h.lw x hx
  rw [e] at hl hw
  have hb : Lt A.k.toNat b := hl.left.right
  have hv := h.least b hb
  obtain ⟨hvl, hvw⟩ := h.lw _ (h.lt hb h.pos)
  obtain ⟨v, hvE⟩ : ∃ v, Go.Proofs.Ytflclnkaccbfcaa.lw A.k.toNat N (mr A.k.toNat N 0 b) = v := ⟨_, rfl⟩
  rw [hvE] at hv hvl hvw ⊢
  have hs : mr A.k.toNat N 0 (a ++ v ++ c) = x := by
    rw [mr_app, mr_app, ← hw, mr_app, mr_app]
    congr 1
    rw [← h.mr_pr (h.lt hl.left.left h.pos) hvl, ← h.mr_pr (h.lt hl.left.left h.pos) hb, hvw]
  have h1 := h.least (a ++ v ++ c) ((hl.left.left.app hvl).app hl.right)
  rw [hs, e] at h1
  have h2 : sle (a ++ v ++ c) (a ++ b ++ c) := sle_app (sle_pre a hv) c
  have := sle_anti h2 h1
  rw [List.append_left_inj, List.append_right_inj] at this
  exact this
end Go.Proofs.Ytflclnkaccbfcaa
