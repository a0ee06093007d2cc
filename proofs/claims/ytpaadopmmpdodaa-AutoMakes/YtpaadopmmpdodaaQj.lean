/- Contract of the document's Least. -/
import Derived.Test.YtpaadopmmpdodaaQi
import Derived.Test.YtpaadopmmpdodaaQf
namespace Go.Proofs.Ytpaadopmmpdodaa
open Go Go.RowKit Go.Lib Go.Maps
set_option linter.unusedVariables false

/-- Which states were met. -/
def metL (N : Nat) (m : List Nat) : List Bool := (List.range N).map fun t => decide (t ∈ m)
theorem metL_len (N : Nat) (m : List Nat) : (metL N m).length = N := by simp [metL]
theorem metL_at {N : Nat} (m : List Nat) {t : Nat} (h : t < N) : (metL N m)[t]? = some (decide (t ∈ m)) := by simp [metL, h]
theorem metL_set {N : Nat} (m : List Nat) {t : Nat} (h : t < N) : (metL N m).set t true = metL N (m ++ [t]) := by
  apply List.ext_getElem?
  intro j
  rw [List.getElem?_set, metL_len]
  by_cases hj : j < N
  · rw [metL_at _ hj, metL_at _ hj]
    by_cases e : t = j
    · subst e; simp [h]
    · rw [if_neg e]
      have e3 : ¬ j = t := fun e2 => e e2.symm
      simp [e3]
  · rw [List.getElem?_eq_none (l := metL N m) (by rw [metL_len]; omega), List.getElem?_eq_none (l := metL N (m ++ [t])) (by rw [metL_len]; omega)]
    by_cases e : t = j
    · omega
    · rw [if_neg e]
theorem metL_start (N : Nat) (h : 1 ≤ N) : (List.replicate N false).set 0 true = metL N [0] := by
  have e : List.replicate N false = metL N [] := by
    apply List.ext_getElem?
    intro j
    by_cases hj : j < N
    · rw [metL_at _ hj]; simp [hj]
    · rw [List.getElem?_eq_none (l := metL N []) (by rw [metL_len]; omega), List.getElem?_eq_none (by simp; omega)]
  rw [e, metL_set [] (by omega)]
  rfl
/-- The words of the states met, as cells. -/
def wC (K : Nat) (n : List Nat) (M : Nat) : List Value := (List.range M).map fun j => Value.string ⟨(lB (lw K n j)).toArray⟩
theorem wC_len (K : Nat) (n : List Nat) (M : Nat) : (wC K n M).length = M := by simp [wC]
theorem wC_at (K : Nat) (n : List Nat) {M j : Nat} (h : j < M) : (wC K n M)[j]? = some (.string ⟨(lB (lw K n j)).toArray⟩) := by simp [wC, h]
theorem wC_app {K M : Nat} {n : List Nat} (h : Fst K M n) (r : List Nat) : wC K (n ++ r) M = wC K n M := by
  unfold wC
  refine List.map_congr_left (fun j hj => ?_)
  rw [lw_app h r j (List.mem_range.1 hj)]
theorem lB_snoc (l : List Nat) (c : Nat) : (⟨(lB l).toArray⟩ : ByteArray) ++ ⟨[UInt8.ofNat (97 + c)].toArray⟩ = ⟨(lB (l ++ [c])).toArray⟩ := by
  apply ByteArray.ext
  simp [lB]
/-- What stands in memory while the document's Least goes on. -/
structure LS (w : World) (arr : Array Value) (K N : Nat) (m n : List Nat) (vb vm vw : Value) (wr : World) : Prop where
  bx : wr.heap[w.heap.size]? = some (.cells arr 25 (0, 0))
  met : wr.ownsRow w.heap.size 4 1 vb N (bC (metL N m))
  at_ : wr.ownsRow w.heap.size 3 1 vm m.length (nC m)
  wds : wr.ownsRow w.heap.size 9 1 vw m.length (wC K n m.length)
  below : Below w.heap.size w wr
theorem LS.call {w : World} {arr : Array Value} {K N : Nat} {m n : List Nat} {vb vm vw : Value} {wr w2 : World} (h : LS w arr K N m n vb vm vw wr) (hb : Below wr.heap.size wr w2) : LS w arr K N m n vb vm vw w2 :=
  ⟨(hb.block _ (Array.getElem?_eq_some_iff.1 h.bx).1).trans h.bx, own_below h.met hb, own_below h.at_ hb, own_below h.wds hb, go_on h.below hb⟩
theorem LS.old {w : World} {arr : Array Value} {K N p : Nat} {m n : List Nat} {vb vm vw : Value} {wr : World} (h : LS w arr K N m n vb vm vw wr) (hf : Fst K m.length n) : LS w arr K N m (n ++ [p]) vb vm vw wr :=
  ⟨h.bx, h.met, h.at_, by rw [wC_app hf]; exact h.wds, h.below⟩
/-- A state is marked as met. -/
theorem LS.mark {w : World} {arr : Array Value} {K N g c t : Nat} {m n : List Nat} {vm vw : Value} {wr : World} (h : LS w arr K N m n (.slice (some ⟨g, 0, none⟩) N c) vm vw wr) (ht : t < N) :
    (wr.setCell ⟨g, t, none⟩ (.bool true)).heap[w.heap.size]? = some (.cells arr 25 (0, 0)) ∧ (wr.setCell ⟨g, t, none⟩ (.bool true)).ownsRow w.heap.size 4 1 (.slice (some ⟨g, 0, none⟩) N c) N (bC (metL N (m ++ [t]))) ∧ (wr.setCell ⟨g, t, none⟩ (.bool true)).ownsRow w.heap.size 3 1 vm m.length (nC m) ∧ (wr.setCell ⟨g, t, none⟩ (.bool true)).ownsRow w.heap.size 9 1 vw m.length (wC K n m.length) ∧ Below w.heap.size w (wr.setCell ⟨g, t, none⟩ (.bool true)) := by
  obtain ⟨hlo, cur, hg⟩ := own_blk h.met (b := g) rfl
  have so : ∀ (b : Nat) (O : Obj), wr.heap[b]? = some O → (∀ cur : Array Value, O ≠ Obj.cells cur 4 (0, 0)) → (wr.setCell ⟨g, t, none⟩ (.bool true)).heap[b]? = wr.heap[b]? := fun b O hb hne => heap_set_other (fun e => by
    rw [e, hg, Option.some.injEq] at hb
    exact hne _ hb.symm)
  refine ⟨(so _ _ h.bx (fun cur e => by injection e with _ e _; cases e)).trans h.bx, ?_, own_keep h.at_ (fun b cur hb hc => so b _ hc (fun cur' e => by injection e with _ e _; cases e)), own_keep h.wds (fun b cur hb hc => so b _ hc (fun cur' e => by injection e with _ e _; cases e)), h.below.setCell (p := ⟨g, t, none⟩) hlo _⟩
  have := (h.met.stored t (.bool true)).1
  rw [← metL_set m ht]
  simpa [bC, List.map_set] using this

/-- The same, each list by itself. -/
structure LG (w : World) (arr : Array Value) (N a b : Nat) (xb xi xw : List Value) (vb vm vw : Value) (wr : World) : Prop where
  bx : wr.heap[w.heap.size]? = some (.cells arr 25 (0, 0))
  met : wr.ownsRow w.heap.size 4 1 vb N xb
  at_ : wr.ownsRow w.heap.size 3 1 vm a xi
  wds : wr.ownsRow w.heap.size 9 1 vw b xw
  below : Below w.heap.size w wr
theorem grown_off {base : Nat} {wr y w2 : World} {e : TypeId} {size k : Nat} {v : Value} {xs : List Value} (hv : wr.ownsRow base e size v k xs) (hy : Below wr.heap.size wr y) (hg : y.grownBy w2 v.ownBlock) (b : Nat) (O : Obj) (hb : wr.heap[b]? = some O) (hne : ∀ cur : Array Value, O ≠ Obj.cells cur e (0, 0)) : w2.heap[b]? = wr.heap[b]? := by
  have hlt := (Array.getElem?_eq_some_iff.1 hb).1
  rw [hg.block b (by have := hy.size; omega) (fun e1 => by
    obtain ⟨_, cur, hc⟩ := own_blk hv e1.symm
    rw [hc, Option.some.injEq] at hb
    exact hne cur hb.symm)]
  exact hy.block b hlt
theorem LG.ints {w : World} {arr : Array Value} {N a b : Nat} {xb xi xw : List Value} {vb vm vw vm' z : Value} {wr y w2 : World} (h : LG w arr N a b xb xi xw vb vm vw wr) (hy : Below wr.heap.size wr y) (hg : y.grownBy w2 vm.ownBlock) (ho : w2.ownsRow w.heap.size 3 1 vm' (a + 1) (xi ++ [z])) : LG w arr N (a + 1) b xb (xi ++ [z]) xw vb vm' vw w2 := by
  have kt := fun b O hb hne => grown_off h.at_ hy hg b O hb hne
  exact ⟨(kt _ _ h.bx (fun cur e => by injection e with _ e _; cases e)).trans h.bx, own_keep h.met (fun b cur hb hc => kt b _ hc (fun cur' e => by injection e with _ e _; cases e)), ho, own_keep h.wds (fun b cur hb hc => kt b _ hc (fun cur' e => by injection e with _ e _; cases e)), (go_on h.below hy).grown hg (by have := h.below.size; have := hy.size; omega) (fun b hb => (h.at_.lt b hb).1)⟩
theorem LG.strs {w : World} {arr : Array Value} {N a b : Nat} {xb xi xw : List Value} {vb vm vw vw' z : Value} {wr y w2 : World} (h : LG w arr N a b xb xi xw vb vm vw wr) (hy : Below wr.heap.size wr y) (hg : y.grownBy w2 vw.ownBlock) (ho : w2.ownsRow w.heap.size 9 1 vw' (b + 1) (xw ++ [z])) : LG w arr N a (b + 1) xb xi (xw ++ [z]) vb vm vw' w2 := by
  have kt := fun b O hb hne => grown_off h.wds hy hg b O hb hne
  exact ⟨(kt _ _ h.bx (fun cur e => by injection e with _ e _; cases e)).trans h.bx, own_keep h.met (fun b cur hb hc => kt b _ hc (fun cur' e => by injection e with _ e _; cases e)), own_keep h.at_ (fun b cur hb hc => kt b _ hc (fun cur' e => by injection e with _ e _; cases e)), ho, (go_on h.below hy).grown hg (by have := h.below.size; have := hy.size; omega) (fun b hb => (h.wds.lt b hb).1)⟩
theorem LG.ls {w : World} {arr : Array Value} {K N i c t p : Nat} {m n : List Nat} {vb vm vw : Value} {wr : World} (h : LG w arr N (m.length + 1) (m.length + 1) (bC (metL N (m ++ [t]))) (nC m ++ [.int .i64 (t : Int)]) (wC K n m.length ++ [.string ((⟨(lB (lw K n i)).toArray⟩ : ByteArray) ++ ⟨[UInt8.ofNat (97 + c)].toArray⟩)]) vb vm vw wr) (h1 : lw K (n ++ [p]) m.length = lw K n i ++ [c]) (h2 : wC K (n ++ [p]) m.length = wC K n m.length) : LS w arr K N (m ++ [t]) (n ++ [p]) vb vm vw wr := by
  refine ⟨h.bx, h.met, ?_, ?_, h.below⟩
  · have := h.at_
    simpa [nC] using this
  · have e : wC K (n ++ [p]) (m.length + 1) = wC K (n ++ [p]) m.length ++ [.string ⟨(lB (lw K (n ++ [p]) m.length)).toArray⟩] := by
      unfold wC
      rw [List.range_succ, List.map_append]
      rfl
    rw [List.length_append, show [t].length = 1 from rfl, e, h2, h1, ← lB_snoc]
    exact h.wds

/-- All that stands ahead of the letter c of the state i. -/
structure LI (A : Aut) (K i c : Nat) (m n : List Nat) (f : Nat) : Prop where
  bi : BI (dN A) K 0 m n
  go : bgo (dN A) K f m n = bfs (dN A) K 0
  fu : f + n.length = 32768
  nl : n.length = i * K + c
  lt : ∀ s ∈ m, s < A.ac.length
  no : ∀ (j t : Nat), j < i → m[j]? = some t → aN A t = false
theorem LI.most {A : Aut} {K i c : Nat} {m n : List Nat} {f : Nat} (h : LI A K i c m n f) (hN : A.ac.length ≤ 4096) {t : Nat} (ht : t < A.ac.length) (hm : t ∉ m) : m.length ≠ 4096 := fun e => by
  have := nodup_small A.ac.length (t :: m) (List.nodup_cons.2 ⟨hm, h.bi.nodup⟩) (fun y hy => by
    rcases List.mem_cons.1 hy with rfl | hy
    · exact ht
    · exact h.lt y hy)
  simp at this
  omega
theorem LI.fuel {A : Aut} {K i c : Nat} {m n : List Nat} {f : Nat} (h : LI A K i c m n f) (hK : c < K) (hk8 : K ≤ 8) (hi : i < m.length) : ∃ f', f = f' + 1 := by
  cases f with
  | succ f => exact ⟨f, rfl⟩
  | zero =>
    have h1 := h.fu
    have h2 := h.nl
    have h3 := h.bi.most
    have h4 := Nat.mul_le_mul_right K (show i + 1 ≤ 4096 by omega)
    have h5 := Nat.mul_le_mul_left 4096 hk8
    rw [Nat.add_mul] at h4
    omega

set_option maxHeartbeats 8000000 in
set_option maxRecDepth 100000 in
theorem rleast_any (v : Value) (A : Aut) (w : World) (h : AR w v A) (hm : A.nx.length ≤ 9223372036854775806) (hm2 : A.ac.length ≤ 9223372036854775806) :
    Calls Try.prog 18 #[v] w fun e w' => e = .returned (.tuple #[.string (lsW A), .bool (lsF A), .int .i64 (chkA A)]) ∧ Below w.heap.size w w' := by
  obtain ⟨an, cn, aa, ca, e, h1, h2⟩ := h.is
  have HAR : Hid (∀ w', Below w.heap.size w w' → AR w' v A) := fun w' hb => h.stay hb
  have HS1 : Hid (∀ y, Below w.heap.size w y → SR y an (zC A.nx)) := fun y hy => h1.stay hy
  have HS2 : Hid (∀ y, Below w.heap.size w y → SR y aa (bC A.ac)) := fun y hy => h2.stay hy
  clear h h1 h2
  subst e
  obtain ⟨i0, hi, hz0, hz1, hz2⟩ := info_parts Try.info_int
  obtain ⟨i1, hj, hq0, hq1, hq2⟩ := info_parts Try.info_bool
  obtain ⟨i2, hs, hs0, hs1, hs2⟩ := info_parts Try.info_string
  have HBX : Hid ((w.alloc (.cells #[.int .i64 A.k, .slice an A.nx.length cn, .slice aa A.ac.length ca] 25)).heap[w.heap.size]? = some (.cells #[.int .i64 A.k, .slice an A.nx.length cn, .slice aa A.ac.length ca] 25 (0, 0))) := heap_alloc_last _ _
  go_enter Try.func18, Try.ntmps18
  go_wp2_with fail
  refine (racheck_any _ A _ (HAR.out _ (below_new _ _)) hm hm2).mono ?_
  rintro e w1 ⟨rfl, hb1⟩
  have hbx1 : w1.heap[w.heap.size]? = some (.cells #[.int .i64 A.k, .slice an A.nx.length cn, .slice aa A.ac.length ca] 25 (0, 0)) := (hb1.block _ (Array.getElem?_eq_some_iff.1 HBX.out).1).trans HBX.out
  have HB1 : Hid (Below w.heap.size w w1) := go_on (below_new _ _) hb1
  have HX1 : Hid (w1.heap[w.heap.size]? = some (.cells #[.int .i64 A.k, .slice an A.nx.length cn, .slice aa A.ac.length ca] 25 (0, 0))) := hbx1
  have cs : ∀ o, w1.cell? ⟨w.heap.size, o, none⟩ = (#[.int .i64 A.k, .slice an A.nx.length cn, .slice aa A.ac.length ca] : Array Value)[o]? := fun o => cell_of hbx1
  clear hb1 hbx1
  rcases chkA_cases A with ⟨hG, hc⟩ | ⟨hG, hc⟩
  · rw [hc]
    have HG : Hid (Good A) := hG
    have HC : Hid (chkA A = 0) := hc
    have hn1 := hG.n1
    have hn4 := hG.n2
    have hk1 := hG.k1
    have hk8 := hG.k8
    obtain ⟨K, hK⟩ : ∃ K : Nat, A.k = K := ⟨A.k.toNat, hG.kn.2.2.symm⟩
    have HK : Hid (A.k = (K : Int) ∧ A.k.toNat = K) := by refine ⟨hK, ?_⟩; rw [hK]; simp
    have hmk := fun w0 => run_make (P := Try.prog) w0 23 4 i1 (.bool false) Try.underlying23 hj hq0 .i64 .i64 (A.ac.length : Int) (A.ac.length : Int) (by omega) (by omega) (by rw [hq2]; omega) (by omega)
    rw [hq1] at hmk
    simp only [Nat.mul_one] at hmk
    have hp0 : (0 : Int) < A.ac.length := by omega
    have e0 : (w1.alloc (.cells (madeCells #[.bool false] A.ac.length) 4)).cell? ⟨w1.heap.size, 0, none⟩ = some (.bool false) := by
      rw [(RowAt.last w1 (madeCells #[.bool false] A.ac.length) 4).cell 0]
      simp [madeCells, show 0 < A.ac.length by omega]
    have e1 : (w1.alloc (.cells (madeCells #[.bool false] A.ac.length) 4)).frozen? ⟨w1.heap.size, 0, none⟩ = false := froz_of (heap_alloc_last _ _)
    clear hc hG hK
    go_wp2_with fail
    have HL0 : Hid (LS w #[.int .i64 A.k, .slice an A.nx.length cn, .slice aa A.ac.length ca] K A.ac.length [0] [] (.slice (some ⟨w1.heap.size, 0, none⟩) A.ac.length A.ac.length) (.slice (some ⟨w1.heap.size + 1, 0, none⟩) 1 1) (.slice (some ⟨w1.heap.size + 1 + 1, 0, none⟩) 1 1) (((w1.alloc (.cells ((madeCells #[.bool false] A.ac.length).setIfInBounds 0 (.bool true)) 4)).alloc (.cells #[.int .i64 0] 3)).alloc (.cells #[.string ⟨#[]⟩] 9))) := by
      have hsz : w.heap.size < w1.heap.size := (Array.getElem?_eq_some_iff.1 HX1.out).1
      have b0 : (((w1.alloc (.cells ((madeCells #[.bool false] A.ac.length).setIfInBounds 0 (.bool true)) 4)).alloc (.cells #[.int .i64 0] 3)).alloc (.cells #[.string ⟨#[]⟩] 9)).heap[w1.heap.size]? = some (.cells ((madeCells #[.bool false] A.ac.length).setIfInBounds 0 (.bool true)) 4 (0, 0)) := by
        rw [(below_new _ _).block _ (by simp; omega), (below_new _ _).block _ (by simp)]
        exact heap_alloc_last _ _
      have b1 : (((w1.alloc (.cells ((madeCells #[.bool false] A.ac.length).setIfInBounds 0 (.bool true)) 4)).alloc (.cells #[.int .i64 0] 3)).alloc (.cells #[.string ⟨#[]⟩] 9)).heap[w1.heap.size + 1]? = some (.cells #[.int .i64 0] 3 (0, 0)) := by
        rw [(below_new _ _).block _ (by simp)]
        have := heap_alloc_last (w1.alloc (.cells ((madeCells #[.bool false] A.ac.length).setIfInBounds 0 (.bool true)) 4)) (.cells #[.int .i64 0] 3)
        simpa using this
      have b2 : (((w1.alloc (.cells ((madeCells #[.bool false] A.ac.length).setIfInBounds 0 (.bool true)) 4)).alloc (.cells #[.int .i64 0] 3)).alloc (.cells #[.string ⟨#[]⟩] 9)).heap[w1.heap.size + 1 + 1]? = some (.cells #[.string ⟨#[]⟩] 9 (0, 0)) := by
        have := heap_alloc_last ((w1.alloc (.cells ((madeCells #[.bool false] A.ac.length).setIfInBounds 0 (.bool true)) 4)).alloc (.cells #[.int .i64 0] 3)) (.cells #[.string ⟨#[]⟩] 9)
        simpa using this
      refine ⟨?_, ⟨by simp [bC, metL], .inr ⟨w1.heap.size, A.ac.length, _, rfl, by omega, b0, Nat.le_refl _, by unfold maxLen; omega, by simp [madeCells], ?_⟩⟩, ⟨rfl, .inr ⟨w1.heap.size + 1, 1, _, rfl, by omega, b1, Nat.le_refl _, by unfold maxLen; omega, rfl, rfl⟩⟩, ⟨rfl, .inr ⟨w1.heap.size + 1 + 1, 1, _, rfl, by omega, b2, Nat.le_refl _, by unfold maxLen; omega, rfl, rfl⟩⟩, go_on (go_on (go_on HB1.out (below_new _ _)) (below_new _ _)) (below_new _ _)⟩
      · rw [(below_new _ _).block _ (by simp; omega), (below_new _ _).block _ (by simp; omega), (below_new _ _).block _ hsz]
        exact HX1.out
      · rw [← metL_start A.ac.length hn1, Array.toList_setIfInBounds]
        have e : (madeCells #[Value.bool false] A.ac.length).toList = bC (List.replicate A.ac.length false) := by
          apply List.ext_getElem?
          intro j
          by_cases hj : j < A.ac.length
          · simp [madeCells, bC, hj, Nat.mod_one]
          · simp [madeCells, bC, hj]
        rw [e]
        simp [bC, List.map_set, List.take_of_length_le]
    have HI0 : Hid (LI A K 0 0 [0] [] 32768) := ⟨BI.start _ _ _, rfl, rfl, by simp, fun s hs => by simp at hs; omega, fun j t hj => by omega⟩
    have hK8 : K ≤ 8 := by have := HG.out.kn; have := HK.out.2; omega
    have hKI : (K : Int) = A.k := HK.out.1.symm
    have HKI : Hid ((K : Int) = A.k) := hKI
    clear e0 e1 hmk cs hKI
    go_loopw [7, 8, 9] (fun vm vw vi wr => ∃ (i : Nat) (m n : List Nat) (f : Nat), vi = .int .i64 i ∧ LI A K i 0 m n f ∧ LS w #[.int .i64 A.k, .slice an A.nx.length cn, .slice aa A.ac.length ca] K A.ac.length m n (.slice (some ⟨w1.heap.size, 0, none⟩) A.ac.length A.ac.length) vm vw wr) (fun _ _ vi _ => 4097 - (intOf vi).toNat)
    case atStart => exact ⟨0, _, _, _, rfl, HI0.out, HL0.out⟩
    case round =>
      clear HL0 HI0
      obtain ⟨i, m, n, f, rfl, hI, hL⟩ := hrel
      obtain ⟨ma, mc, rfl⟩ := own_shape hL.at_
      obtain ⟨wa, wc, rfl⟩ := own_shape hL.wds
      have HI : Hid (LI A K i 0 m n f) := hI
      have HL : Hid (LS w #[.int .i64 A.k, .slice an A.nx.length cn, .slice aa A.ac.length ca] K A.ac.length m n (.slice (some ⟨w1.heap.size, 0, none⟩) A.ac.length A.ac.length) (.slice ma m.length mc) (.slice wa m.length wc) wr) := hL
      have hml := hI.bi.most
      by_cases hlt : i < m.length
      · have hiI : (i : Int) < m.length := by omega
        have hsi := List.getElem?_eq_getElem hlt
        obtain ⟨s, hsE⟩ : ∃ s, m[i] = s := ⟨_, rfl⟩
        rw [hsE] at hsi
        have HSI : Hid (m[i]? = some s) := hsi
        have hsN : s < A.ac.length := hI.lt s (List.mem_of_getElem? hsi)
        obtain ⟨g, o, rfl, hg, hcm⟩ := own_sr hL.at_ i (.int .i64 (s : Int)) (by simp [nC, hsi])
        obtain ⟨gw, ow, rfl, hgw, hcw⟩ := own_sr hL.wds i _ (wC_at K n hlt)
        obtain ⟨ga, oa, rfl, hga, hca⟩ := (HS2.out wr hL.below).bool hsN
        obtain ⟨d, hd⟩ : ∃ d, A.ac.getD s false = d := ⟨_, rfl⟩
        rw [hd] at hca
        have HD : Hid (aN A s = d) := hd
        have hsI : (s : Int) < A.ac.length := by omega
        have hcwd : wr.drew.cell? ⟨gw, ow + i, none⟩ = some (.string ⟨(lB (lw K n i)).toArray⟩) := hcw
        have S0 : (∀ o, wr.drew.cell? ⟨w.heap.size, o, none⟩ = (#[.int .i64 A.k, .slice an A.nx.length cn, .slice (some ⟨ga, oa, none⟩) A.ac.length ca] : Array Value)[o]?) ∧ wr.drew.cell? ⟨g, o + i, none⟩ = some (.int .i64 (s : Int)) ∧ wr.drew.cell? ⟨ga, oa + s, none⟩ = some (.bool d) := ⟨fun o => cell_of hL.bx, hcm, hca⟩
        clear hI hL hsi hsE hd hcm hca hcw
        go_wp2_with fail
        go_region_held3 (fun y => (∀ o, y.cell? ⟨w.heap.size, o, none⟩ = (#[.int .i64 A.k, .slice an A.nx.length cn, .slice (some ⟨ga, oa, none⟩) A.ac.length ca] : Array Value)[o]?) ∧ y.cell? ⟨g, o + i, none⟩ = some (.int .i64 (s : Int)) ∧ y.cell? ⟨ga, oa + s, none⟩ = some (.bool d)) (first | exact S0 | assumption) (fail)
        all_goals (
          clear S0
          cases d with
          | true =>
            have HR : Hid (lsW A = ⟨(lB (lw K n i)).toArray⟩ ∧ lsF A = true) := by
              have := least_found HG.out (m := m) (n := n) (f := f) (i := i) (s := s) (by rw [HK.out.2]; exact HI.out.bi) (by rw [HK.out.2]; exact HI.out.go) HSI.out HD.out HI.out.no
              rw [HK.out.2] at this
              exact this
            have HBE : Hid (Below w.heap.size w wr.drew) := HL.out.below.drew
            obtain ⟨X, hX⟩ : ∃ X : ByteArray, (⟨(lB (lw K n i)).toArray⟩ : ByteArray) = X := ⟨_, rfl⟩
            rw [hX] at HR hcwd
            clear hX
            go_wp2_with fail
            go_ret3
            exact ⟨ret_three (by rw [HR.out.1]; first | done | rfl) (by rw [HR.out.2]; first | done | rfl) (by rw [HC.out]; first | done | rfl), HBE.out⟩
          | false =>
            have HNO : Hid (∀ (j t : Nat), j < i + 1 → m[j]? = some t → aN A t = false) := fun j t hj ht => by
              by_cases e : j = i
              · subst e
                rw [HSI.out] at ht
                cases ht
                exact HD.out
              · exact HI.out.no j t (by omega) ht
            have HLd : Hid (LS w #[.int .i64 A.k, .slice an A.nx.length cn, .slice (some ⟨ga, oa, none⟩) A.ac.length ca] K A.ac.length m n (.slice (some ⟨w1.heap.size, 0, none⟩) A.ac.length A.ac.length) (.slice (some ⟨g, o, none⟩) m.length mc) (.slice (some ⟨gw, ow, none⟩) m.length wc) wr.drew) := HL.out.call (Below.refl _ _).drew
            clear hcwd
            go_wp2_with fail
            go_loopw [7, 8, 10] (fun vm vw vc wr => ∃ (c : Nat) (m n : List Nat) (f : Nat), vc = .int .i64 c ∧ c ≤ K ∧ i < m.length ∧ LI A K i c m n f ∧ (∀ (j t : Nat), j < i + 1 → m[j]? = some t → aN A t = false) ∧ LS w #[.int .i64 A.k, .slice an A.nx.length cn, .slice (some ⟨ga, oa, none⟩) A.ac.length ca] K A.ac.length m n (.slice (some ⟨w1.heap.size, 0, none⟩) A.ac.length A.ac.length) vm vw wr) (fun _ _ vc _ => K - (intOf vc).toNat)
            case atStart => exact ⟨0, m, n, f, rfl, Nat.zero_le _, hlt, HI.out, HNO.out, HLd.out⟩
            case round =>
              clear HLd HNO HI HL HSI HD
              obtain ⟨c, m2, n2, f2, rfl, hcK, hi2, hI, hno, hL⟩ := hrel
              obtain ⟨ma2, mc2, rfl⟩ := own_shape hL.at_
              obtain ⟨wa2, wc2, rfl⟩ := own_shape hL.wds
              have HI2 : Hid (LI A K i c m2 n2 f2) := hI
              have HNO2 : Hid (∀ (j t : Nat), j < i + 1 → m2[j]? = some t → aN A t = false) := hno
              have hml2 := hI.bi.most
              by_cases hc : c < K
              · have hcI : (c : Int) < A.k := by have := HKI.out; omega
                have hiI2 : (i : Int) < m2.length := by omega
                have hsi := List.getElem?_eq_getElem hi2
                obtain ⟨s2, hsE⟩ : ∃ s, m2[i] = s := ⟨_, rfl⟩
                rw [hsE] at hsi
                have HSI2 : Hid (m2[i]? = some s2) := hsi
                have hsN2 : s2 < A.ac.length := hI.lt s2 (List.mem_of_getElem? hsi)
                obtain ⟨g2, o2, rfl, hg2, hcm⟩ := own_sr hL.at_ i (.int .i64 (s2 : Int)) (by simp [nC, hsi])
                obtain ⟨gw2, ow2, rfl, hgw2, hcw⟩ := own_sr hL.wds i _ (wC_at K n2 hi2)
                obtain ⟨q1, q2, q3⟩ := HG.out.at hsN2 hcI
                obtain ⟨gn, on, rfl, hgn, hcn⟩ := (HS1.out wr hL.below).int q1
                rw [q2] at hcn
                obtain ⟨t, ht⟩ : ∃ t, dN A s2 c = t := ⟨_, rfl⟩
                rw [ht] at hcn q3
                have HT : Hid (dN A s2 c = t) := ht
                have hp : (s2 : Int) * A.k = ((s2 * K : Nat) : Int) := by rw [Int.natCast_mul]; congr 1; exact HKI.out.symm
                rw [HK.out.2] at hcn q1
                have hqb : s2 * K ≤ 4095 * 8 := Nat.mul_le_mul (by omega) hK8
                obtain ⟨p, hpp⟩ : ∃ p, s2 * K = p := ⟨_, rfl⟩
                rw [hpp] at hp hqb hcn q1
                have hw1 : IntKind.i64.wrap ((s2 : Int) * A.k) = (p : Int) := by rw [hp, IntKind.wrap_i64]; omega
                obtain ⟨q, hqq⟩ : ∃ q, p + c = q := ⟨_, rfl⟩
                have hw2 : IntKind.i64.wrap ((p : Int) + c) = (q : Int) := by rw [IntKind.wrap_i64]; omega
                have hgl : (q : Int) < A.nx.length := by omega
                rw [hqq] at hcn
                have HL2 : Hid (LS w #[.int .i64 A.k, .slice (some ⟨gn, on, none⟩) A.nx.length cn, .slice (some ⟨ga, oa, none⟩) A.ac.length ca] K A.ac.length m2 n2 (.slice (some ⟨w1.heap.size, 0, none⟩) A.ac.length A.ac.length) (.slice (some ⟨g2, o2, none⟩) m2.length mc2) (.slice (some ⟨gw2, ow2, none⟩) m2.length wc2) wr) := hL
                have HLd2 : Hid (LS w #[.int .i64 A.k, .slice (some ⟨gn, on, none⟩) A.nx.length cn, .slice (some ⟨ga, oa, none⟩) A.ac.length ca] K A.ac.length m2 n2 (.slice (some ⟨w1.heap.size, 0, none⟩) A.ac.length A.ac.length) (.slice (some ⟨g2, o2, none⟩) m2.length mc2) (.slice (some ⟨gw2, ow2, none⟩) m2.length wc2) wr.drew) := hL.call (Below.refl _ _).drew
                have htN : t < A.ac.length := q3
                have htI : (t : Int) < A.ac.length := by omega
                have hmt : wr.drew.cell? ⟨w1.heap.size, t, none⟩ = some (.bool (decide (t ∈ m2))) := by
                  rw [HLd2.out.met.cellAt t (by omega)]
                  simp [bC, metL_at m2 htN]
                have hmf : wr.drew.frozen? ⟨w1.heap.size, t, none⟩ = false := HLd2.out.met.frozenAt t
                have S0 : (∀ o, wr.drew.cell? ⟨w.heap.size, o, none⟩ = (#[.int .i64 A.k, .slice (some ⟨gn, on, none⟩) A.nx.length cn, .slice (some ⟨ga, oa, none⟩) A.ac.length ca] : Array Value)[o]?) ∧ wr.drew.cell? ⟨g2, o2 + i, none⟩ = some (.int .i64 (s2 : Int)) ∧ wr.drew.cell? ⟨gn, on + q, none⟩ = some (.int .i64 (t : Int)) := ⟨fun o => cell_of hL.bx, hcm, hcn⟩
                have csb : ∀ o, wr.cell? ⟨w.heap.size, o, none⟩ = (#[.int .i64 A.k, .slice (some ⟨gn, on, none⟩) A.nx.length cn, .slice (some ⟨ga, oa, none⟩) A.ac.length ca] : Array Value)[o]? := fun o => cell_of hL.bx
                obtain ⟨fp, hfp⟩ := hI.fuel hc hK8 hi2
                have HFP : Hid (f2 = fp + 1) := hfp
                have hn2b : n2.length ≤ 32768 := by have := hI.fu; omega
                clear hI hno hL hsi hsE hcm hcn q1 q2 q3 ht hp hqb hpp hqq hcw hfp
                go_wp2_with fail
                clear csb
                go_region_held3 (fun y => (∀ o, y.cell? ⟨w.heap.size, o, none⟩ = (#[.int .i64 A.k, .slice (some ⟨gn, on, none⟩) A.nx.length cn, .slice (some ⟨ga, oa, none⟩) A.ac.length ca] : Array Value)[o]?) ∧ y.cell? ⟨g2, o2 + i, none⟩ = some (.int .i64 (s2 : Int)) ∧ y.cell? ⟨gn, on + q, none⟩ = some (.int .i64 (t : Int))) (first | exact S0 | assumption) (fail)
                all_goals (
                  clear S0
                  by_cases hin : t ∈ m2
                  · rw [decide_eq_true hin] at hmt
                    have HI3 : Hid (LI A K i (c + 1) m2 (n2 ++ [m2.idxOf t]) fp) := by
                      have hI := HI2.out
                      have hin' : dN A s2 c ∈ m2 := by rw [HT.out]; exact hin
                      refine ⟨?_, ?_, by have := hI.fu; have := HFP.out; simp; omega, by have := hI.nl; simp; omega, hI.lt, hI.no⟩
                      · have := hI.bi.old hc hI.nl HSI2.out hin'
                        rw [HT.out] at this
                        exact this
                      · rw [← hI.go, HFP.out, bgo_old hc hI.nl HSI2.out hin', HT.out]
                    have HL3 : Hid (LS w #[.int .i64 A.k, .slice (some ⟨gn, on, none⟩) A.nx.length cn, .slice (some ⟨ga, oa, none⟩) A.ac.length ca] K A.ac.length m2 (n2 ++ [m2.idxOf t]) (.slice (some ⟨w1.heap.size, 0, none⟩) A.ac.length A.ac.length) (.slice (some ⟨g2, o2, none⟩) m2.length mc2) (.slice (some ⟨gw2, ow2, none⟩) m2.length wc2) wr.drew) := HLd2.out.old HI2.out.bi.fst
                    clear hin
                    go_wp2_with fail
                    go_roundw
                    case rel => exact ⟨c + 1, m2, n2 ++ [m2.idxOf t], fp, by go_num, by omega, hi2, HI3.out, HNO2.out, HL3.out⟩
                    case measure => simp [intOf]; omega
                  · rw [decide_eq_false hin] at hmt
                    have HIN : Hid (¬ t ∈ m2) := hin
                    have hm4 : m2.length ≠ 4096 := HI2.out.most hn4 htN hin
                    have hin' : ¬ dN A s2 c ∈ m2 := by rw [HT.out]; exact hin
                    have HI3 : Hid (LI A K i (c + 1) (m2 ++ [t]) (n2 ++ [m2.length]) fp) := by
                      have hI := HI2.out
                      refine ⟨?_, ?_, by have := hI.fu; have := HFP.out; simp; omega, by have := hI.nl; simp; omega, fun x hx => ?_, fun j x hj hx => ?_⟩
                      · have := hI.bi.new hc hI.nl HSI2.out hin' hm4
                        rw [HT.out] at this
                        exact this
                      · rw [← hI.go, HFP.out, bgo_new hc hI.nl HSI2.out hin' hm4, HT.out]
                      · rcases List.mem_append.1 hx with hx | hx
                        · exact hI.lt x hx
                        · simp at hx; subst hx; exact htN
                      · rw [List.getElem?_append_left (by omega)] at hx
                        exact hI.no j x hj hx
                    have HNO3 : Hid (∀ (j x : Nat), j < i + 1 → (m2 ++ [t])[j]? = some x → aN A x = false) := fun j x hj hx => by
                      rw [List.getElem?_append_left (by omega)] at hx
                      exact HNO2.out j x hj hx
                    have HWN : Hid (lw K (n2 ++ [m2.length]) m2.length = lw K n2 i ++ [c]) := lw_new HI2.out.bi hc HI2.out.nl HSI2.out hin' hm4
                    have HWO : Hid (wC K (n2 ++ [m2.length]) m2.length = wC K n2 m2.length) := wC_app HI2.out.bi.fst _
                    obtain ⟨k1, k2, k3, k4, k5⟩ := HL2.out.mark htN
                    have KG : Hid (LG w #[.int .i64 A.k, .slice (some ⟨gn, on, none⟩) A.nx.length cn, .slice (some ⟨ga, oa, none⟩) A.ac.length ca] A.ac.length m2.length m2.length (bC (metL A.ac.length (m2 ++ [t]))) (nC m2) (wC K n2 m2.length) (.slice (some ⟨w1.heap.size, 0, none⟩) A.ac.length A.ac.length) (.slice (some ⟨g2, o2, none⟩) m2.length mc2) (.slice (some ⟨gw2, ow2, none⟩) m2.length wc2) (wr.setCell ⟨w1.heap.size, t, none⟩ (.bool true))) := ⟨k1, k2, k3, k4, k5⟩
                    have KA : Hid (∀ O, ((wr.setCell ⟨w1.heap.size, t, none⟩ (.bool true)).alloc O).drew.ownsRow w.heap.size 3 1 (.slice (some ⟨g2, o2, none⟩) m2.length mc2) m2.length (nC m2)) := fun O => k3.alloc O
                    have KB : Hid (∀ (j : Nat) (u : Value), [Value.int .i64 (t : Int)][j]? = some u → ((wr.setCell ⟨w1.heap.size, t, none⟩ (.bool true)).alloc (.cells #[.int .i64 (t : Int)] 3)).drew.cell? ((⟨wr.heap.size, 0, none⟩ : Addr).add j) = some u) := by
                      have := cell_one_new (wr.setCell ⟨w1.heap.size, t, none⟩ (.bool true)) (.int .i64 (t : Int)) 3
                      rw [show (wr.setCell ⟨w1.heap.size, t, none⟩ (.bool true)).heap.size = wr.heap.size by simp] at this
                      exact this
                    have KC : Hid (w.heap.size ≤ wr.heap.size) := by have := k5.size; show _ ≤ _; simpa using this
                    have hu1 : IntKind.i64.wrap (97 + (c : Int)) = 97 + c := by rw [IntKind.wrap_i64]; omega
                    have hu2 : IntKind.u8.wrap (97 + (c : Int)) = ((UInt8.ofNat (97 + c)).toNat : Int) := by rw [IntKind.wrap_u8, UInt8.toNat_ofNat']; omega
                    obtain ⟨bt, hbt⟩ : ∃ bt, UInt8.ofNat (97 + c) = bt := ⟨_, rfl⟩
                    rw [hbt] at hu2
                    have HBT : Hid (UInt8.ofNat (97 + c) = bt) := hbt
                    clear hin hin' k1 k2 k3 k4 k5 hbt
                    go_wp2_with (at_builtin; refine wpList_append_own _ rfl _ _ 22 rfl w.heap.size 3 i0 (.int .i64 0) 1 8 Try.underlying22 hi hz0 hz1 hz2 rfl (by decide) _ _ _ rfl (KA.out _) ⟨wr.heap.size, 0, none⟩ 1 1 [.int .i64 (t : Int)] rfl rfl KB.out (by intro u hu; simp at hu; subst hu; rfl) (by unfold maxLen; omega) (by omega) (by have := KC.out; simp; omega) ?_; intro v6 w6 ho6 hg6 _; obtain ⟨va6, vc6, rfl⟩ := own_shape ho6; have KG6 : Hid (LG w #[.int .i64 A.k, .slice (some ⟨gn, on, none⟩) A.nx.length cn, .slice (some ⟨ga, oa, none⟩) A.ac.length ca] A.ac.length (m2.length + 1) m2.length (bC (metL A.ac.length (m2 ++ [t]))) (nC m2 ++ [.int .i64 (t : Int)]) (wC K n2 m2.length) (.slice (some ⟨w1.heap.size, 0, none⟩) A.ac.length A.ac.length) (.slice va6 (m2.length + 1) vc6) (.slice (some ⟨gw2, ow2, none⟩) m2.length wc2) w6) := KG.out.ints (below_new _ _).drew hg6 ho6; clear ho6 hg6)
                    have hcw6 : w6.drew.cell? ⟨gw2, ow2 + i, none⟩ = some (.string ⟨(lB (lw K n2 i)).toArray⟩) := by
                      obtain ⟨gx, ox, ex, _, hx⟩ := own_sr KG6.out.wds i _ (wC_at K n2 hi2)
                      injection ex with ex
                      injection ex with ex1 ex2
                      subst ex1 ex2
                      exact hx
                    have hsl : Hid (w.heap.size ≤ w6.heap.size) := KG6.out.below.size
                    have hcw7 : ∀ O, (w6.alloc O).drew.cell? ⟨gw2, ow2 + i, none⟩ = some (.string ⟨(lB (lw K n2 i)).toArray⟩) := fun O => by
                      obtain ⟨gx, ox, ex, _, hx⟩ := own_sr (KG6.out.wds.alloc O) i _ (wC_at K n2 hi2)
                      injection ex with ex
                      injection ex with ex1 ex2
                      subst ex1 ex2
                      exact hx
                    have hcv : (convert 68 9 (.slice (some ⟨w6.heap.size, 0, none⟩) 1 1)).run Try.prog (w6.alloc (.cells #[.int .u8 (bt.toNat : Int)] 5)).drew = .ok (.string ⟨[bt].toArray⟩) (w6.alloc (.cells #[.int .u8 (bt.toNat : Int)] 5)).drew :=
                      run_string_own w6.heap.size _ [bt] _ ⟨rfl, .inr ⟨w6.heap.size, 1, _, rfl, Nat.le_refl _, heap_alloc_last w6 _, Nat.le_refl _, by unfold maxLen; omega, rfl, rfl⟩⟩
                    have hll : ¬ 9223372036854775807 < (lB (lw K n2 i)).length + 1 := by
                      rw [lB_len]
                      have := lw_len HI2.out.bi.fst i hi2
                      omega
                    have KS : Hid (∀ O O', ((w6.alloc O).alloc O').drew.ownsRow w.heap.size 9 1 (.slice (some ⟨gw2, ow2, none⟩) m2.length wc2) m2.length (wC K n2 m2.length)) := fun O O' => (KG6.out.wds.alloc O).alloc O'
                    have KN : Hid (∀ (j : Nat) (u : Value), [Value.string ((⟨(lB (lw K n2 i)).toArray⟩ : ByteArray) ++ ⟨#[bt]⟩)][j]? = some u → ((w6.alloc (.cells #[.int .u8 (bt.toNat : Int)] 5)).alloc (.cells #[.string ((⟨(lB (lw K n2 i)).toArray⟩ : ByteArray) ++ ⟨#[bt]⟩)] 9)).drew.cell? ((⟨w6.heap.size + 1, 0, none⟩ : Addr).add j) = some u) := by
                      have := cell_one_new (w6.alloc (.cells #[.int .u8 (bt.toNat : Int)] 5)) (.string ((⟨(lB (lw K n2 i)).toArray⟩ : ByteArray) ++ ⟨#[bt]⟩)) 9
                      rw [show (w6.alloc (.cells #[.int .u8 (bt.toNat : Int)] 5)).heap.size = w6.heap.size + 1 by simp] at this
                      exact this
                    go_region_law (rw [if_pos (by rfl)]; refine wp_append_own _ _ _ 67 rfl w.heap.size 9 i2 (.string ByteArray.empty) 1 16 Try.underlying67 hs hs0 hs1 hs2 rfl (by decide) _ _ _ rfl (KS.out _ _) ⟨w6.heap.size + 1, 0, none⟩ 1 1 [.string ((⟨(lB (lw K n2 i)).toArray⟩ : ByteArray) ++ ⟨#[bt]⟩)] rfl rfl KN.out (by intro u hu; simp at hu; subst hu; rfl) (by unfold maxLen; omega) (by omega) (by have := hsl.out; simp; omega) ?_; intro v9 w9 ho9 hg9 _
                                   obtain ⟨va9, vc9, rfl⟩ := own_shape ho9
                                   have hG9 := KG6.out.strs (go_on (below_new _ _) (below_new _ _)).drew hg9 ho9
                                   rw [← HBT.out] at hG9
                                   have HL9 : Hid (LS w #[.int .i64 A.k, .slice (some ⟨gn, on, none⟩) A.nx.length cn, .slice (some ⟨ga, oa, none⟩) A.ac.length ca] K A.ac.length (m2 ++ [t]) (n2 ++ [m2.length]) (.slice (some ⟨w1.heap.size, 0, none⟩) A.ac.length A.ac.length) (.slice va6 (m2.length + 1) vc6) (.slice va9 (m2.length + 1) vc9) w9) := hG9.ls HWN.out HWO.out
                                   clear hG9 ho9 hg9)
                    all_goals (
                      go_wp2_with fail
                      go_roundw
                      case rel => exact ⟨c + 1, m2 ++ [t], n2 ++ [m2.length], fp, by go_num, by omega, by simp; omega, HI3.out, HNO3.out, HL9.out⟩
                      case measure => simp [intOf]; omega))
              · have hcI : ¬ (c : Int) < A.k := by have := HKI.out; omega
                have csb : ∀ o, wr.cell? ⟨w.heap.size, o, none⟩ = (#[.int .i64 A.k, .slice an A.nx.length cn, .slice (some ⟨ga, oa, none⟩) A.ac.length ca] : Array Value)[o]? := fun o => cell_of hL.bx
                have HI3 : Hid (LI A K (i + 1) 0 m2 n2 f2) := ⟨hI.bi, hI.go, hI.fu, by have := hI.nl; rw [this, Nat.add_mul]; omega, hI.lt, hno⟩
                have HL3 : Hid (LS w #[.int .i64 A.k, .slice an A.nx.length cn, .slice (some ⟨ga, oa, none⟩) A.ac.length ca] K A.ac.length m2 n2 (.slice (some ⟨w1.heap.size, 0, none⟩) A.ac.length A.ac.length) (.slice ma2 m2.length mc2) (.slice wa2 m2.length wc2) wr) := hL
                clear hI hno hL
                go_wp2_with fail
                go_roundw
                case rel => exact ⟨i + 1, m2, n2, f2, by go_num, HI3.out, HL3.out⟩
                case measure => simp [intOf]; omega)
      · have hiI : ¬ (i : Int) < m.length := by omega
        have HR : Hid (lsW A = ByteArray.empty ∧ lsF A = false) := by
          refine least_none HG.out (m := m) (n := n) (f := f) (by rw [HK.out.2]; exact HI.out.go) ?_ (fun j t ht => HI.out.no j t (by have := (List.getElem?_eq_some_iff.1 ht).1; omega) ht)
          rw [HK.out.2, HI.out.nl]
          have h1 := HI.out.bi.len
          rw [HI.out.nl] at h1
          have h2 : i ≤ m.length ∨ m.length < i := by omega
          rcases h2 with h2 | h2
          · have : i = m.length := by omega
            rw [this]; omega
          · have h3 := Nat.mul_le_mul_right K (show m.length + 1 ≤ i from h2)
            rw [Nat.add_mul] at h3
            have := HG.out.kn
            have := HK.out.2
            omega
        have HBE : Hid (Below w.heap.size w wr) := HL.out.below
        clear hI hL
        go_wp2_with fail
        go_ret3
        exact ⟨ret_three (by rw [HR.out.1]; first | done | rfl) (by rw [HR.out.2]; first | done | rfl) (by rw [HC.out]; first | done | rfl), HBE.out⟩
  · rw [hc]
    have hre : reA A = zAut := by unfold reA; rw [if_neg (by rw [hc]; decide)]
    have HW : Hid (lsW A = ByteArray.empty) := by show _ = _; unfold lsW; rw [hre, if_neg (by simp [zAut])]
    have HF : Hid (lsF A = false) := by show _ = _; unfold lsF; rw [hre]; exact decide_eq_false (by simp [zAut])
    have HC : Hid (chkA A = 80) := hc
    clear hre hc hG
    go_wp2_with fail
    go_ret3
    exact ⟨ret_three (by rw [HW.out]; first | done | rfl) (by rw [HF.out]; first | done | rfl) (by rw [HC.out]; first | done | rfl), HB1.out⟩
end Go.Proofs.Ytpaadopmmpdodaa
