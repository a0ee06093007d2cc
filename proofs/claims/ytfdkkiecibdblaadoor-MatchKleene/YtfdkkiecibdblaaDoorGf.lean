/- Contract of the laws' ApartNodes at lists each in memory of its own: it answers true; nothing below the lists' own blocks is written. Lists of lists of nodes that a call told: SpoilNodes, SameTrees, ApartNodes of them. Contracts of the document's begin, Cut and Parts; tree.Parts' answer as memory of the caller's own. tree.Parts and the document's Parts at every list, side by side; what was told is apart. Contracts of the document's Made and Join. -/
import Derived.Test.YtfdkkiecibdblaaDoorNa
import Derived.Deep.RegionHeld3
import Derived.Test.YtfdkkiecibdblaaDoorTr
import Derived.Deep.RegionWith
namespace Go.Proofs.YtfdkkiecibdblaaDoor
open Go.RowKit

/-- What stands when the first i lists are marked. -/
structure Marked (N B G : Nat) (a : Nat → Option Addr) (n c : Nat → Nat) (X : Nat → List Nd) (w wr : World) (i : Nat) : Prop where
  list : wr.heap[G]? = some (.cells ((List.range N).map (vv a n c)).toArray 22 (0, 0))
  rows : ∀ j, j < N → wr.ownsRow B 55 2 (vv a n c j) (n j) (ndC (if j < i then List.replicate (n j) (mark (1000 + j)) else X j))
  below : Below B w wr
/-- What stands when k numbers of list i are marked. -/
structure Marking (B : Nat) (V : Value) (n i : Nat) (X : List Nd) (w W0 wr : World) (k : Nat) : Prop where
  others : ∀ b, V.ownBlock ≠ some b → wr.heap[b]? = W0.heap[b]?
  row : wr.ownsRow B 55 2 V n (ndC (markTo (1000 + i) X k))
  below : Below B w wr
theorem cell_list {w : World} {N G : Nat} {a : Nat → Option Addr} {n c : Nat → Nat} (h : w.heap[G]? = some (.cells ((List.range N).map (vv a n c)).toArray 22 (0, 0))) (i : Nat) (hi : i < N) : w.cell? ⟨G, i, none⟩ = some (.slice (a i) (n i) (c i)) := by
  simp [World.cell?, h, hi]
  rfl
theorem own_addr {w : World} {B : Nat} {a : Option Addr} {n c : Nat} {xs : List Value} (h : w.ownsRow B 55 2 (.slice a n c) n xs) (hn : 0 < n) : ∃ g, a = some ⟨g, 0, none⟩ := by
  obtain ⟨_, h⟩ := h
  rcases h with ⟨_, h0⟩ | ⟨g, cap, cur, hv, _⟩
  · omega
  · simp at hv
    exact ⟨g, hv.1⟩

theorem addr_at (g j : Nat) : (⟨g, 0, none⟩ : Addr).add j = ⟨g, j, none⟩ := by
  cases j with
  | zero => simp [Addr.add]
  | succ j => simp [Addr.add]
theorem cells_two (w : World) (b i : Nat) (u u' : Value) : w.setCells b i [u, u'] = (w.setCell ⟨b, i, none⟩ u).setCell ⟨b, i + 1, none⟩ u' := by simp [World.setCells]
theorem cell_two_new (w : World) (a b : Value) (t : TypeId) : ∀ j u, [a, b][j]? = some u → (w.alloc (.cells #[a, b] t)).cell? ((⟨w.heap.size, 0, none⟩ : Addr).add j) = some u := by
  intro j u hu
  rw [addr_at, (RowAt.last w #[a, b] t).cell]
  simpa using hu
theorem ndC_at (l : List Nd) (k : Nat) (h : k < l.length) (x : Nd) (hx : l.getD k (0, 0) = x) : (ndC l)[k * 2]? = some (.int .i64 x.1) ∧ (ndC l)[k * 2 + 1]? = some (.int .u8 x.2) := by
  subst hx; exact ⟨ndC_fst l k h, ndC_snd l k h⟩
theorem own_spare {w : World} {B b n cap : Nat} {e : TypeId} {xs : List Value} (h : w.ownsRow B e 2 (.slice (some ⟨b, 0, none⟩) n cap) n xs) (i : Nat) (hi : i < cap * 2) : (w.cell? ⟨b, i, none⟩).isSome = true ∧ w.frozen? ⟨b, i, none⟩ = false := by
  obtain ⟨_, h⟩ := h
  rcases h with ⟨h, _⟩ | ⟨g, cap', cur, hv, _, r, _, _, r5, _⟩
  · simp at h
  · simp at hv
    obtain ⟨rfl, rfl⟩ := hv
    constructor
    · simp [World.cell?, r]
      omega
    · simp [World.frozen?, r]

end Go.Proofs.YtfdkkiecibdblaaDoor

namespace Go.Proofs.YtfdkkiecibdblaaDoor
open Go Go.RowKit

abbrev S2 (W : World) (a1 a2 : Addr) (u1 u2 : Value) (w' : World) : Prop := w'.cell? a1 = some u1 ∧ w'.cell? a2 = some u2 ∧ Below W.heap.size W w'
theorem s2_step {W : World} {a1 a2 : Addr} {u1 u2 : Value} {w1 w2 : World} (h1 : a1.block < W.heap.size) (h2 : a2.block < W.heap.size) (hb : Below w1.heap.size w1 w2) (h : S2 W a1 a2 u1 u2 w1) : S2 W a1 a2 u1 u2 w2 := by
  have hs := h.2.2.size
  refine ⟨?_, ?_, go_on h.2.2 hb⟩
  · rw [World.cell?_of_block (hb.block _ (Nat.lt_of_lt_of_le h1 hs))]; exact h.1
  · rw [World.cell?_of_block (hb.block _ (Nat.lt_of_lt_of_le h2 hs))]; exact h.2.1

end Go.Proofs.YtfdkkiecibdblaaDoor


namespace Go.Proofs.YtfdkkiecibdblaaDoor
open Go Go.RowKit

theorem free_prefix {q : List Nd} {m c : Nat} (hm : m < q.length) (h : freeN (q.take (m + 1)) = some c) : 1 ≤ c := by
  rw [free_take hm] at h
  cases hx : freeN (q.take m) with
  | none => rw [hx] at h; simp at h
  | some d =>
    rw [hx, Option.bind_some] at h
    split at h
    · simp only [Option.some.injEq] at h; omega
    · cases h
theorem free_prev {q : List Nd} {m c : Nat} (hm : m < q.length) (h : freeN (q.take (m + 1)) = some c) : ∃ d, freeN (q.take m) = some d ∧ arity (q.getD m (0, 0)).1 ≤ d ∧ c = d - arity (q.getD m (0, 0)).1 + 1 := by
  rw [free_take hm] at h
  cases hx : freeN (q.take m) with
  | none => rw [hx] at h; simp at h
  | some d =>
    rw [hx, Option.bind_some] at h
    split at h
    · next hg => simp only [Option.some.injEq] at h; exact ⟨d, rfl, hg.2, h.symm⟩
    · cases h

end Go.Proofs.YtfdkkiecibdblaaDoor


namespace Go.Proofs.YtfdkkiecibdblaaDoor
open Go Go.RowKit

end Go.Proofs.YtfdkkiecibdblaaDoor


namespace Go.Proofs.YtfdkkiecibdblaaDoor
open Go Go.RowKit

theorem tot_le {ps : List (List Nd)} (i : Nat) : tot (ps.take i) ≤ tot ps := by
  unfold tot
  conv => rhs; rw [← List.take_append_drop i ps, List.flatten_append]
  simp
theorem NB.grown {w w' : World} {b : Nat} {k s : Int} {row : Option Nat} (h : NB w b k s) (hg : w.grownBy w' row) (hne : row ≠ some b) : NB w' b k s :=
  (hg.block b h.lt (fun e => hne e.symm)).trans h

set_option maxHeartbeats 4000000 in
set_option maxRecDepth 100000 in
theorem made_any (k s : Int) (v : Value) (ps : List (List Nd)) (w : World) (hv : PReads w v ps) (hne : ∀ i, i < ps.length → 1 ≤ (ps.getD i []).length) (ht : tot ps + 1 ≤ 4000) (hl : ps.length ≤ 4000) :
    Calls Tryd.prog 25 #[ndV (k, s), v] w fun e w' => ∃ u, e = .returned u ∧ w'.ownsRow w.heap.size 55 2 u (ps.flatten ++ [(k, s)]).length (ndC (ps.flatten ++ [(k, s)])) ∧ Below w.heap.size w w' := by
  obtain ⟨i0, hi0, hz0, hz1, hz2⟩ := info_parts Tryd.info_node
  have HV : Hid (PReads w v ps) := hv
  obtain ⟨a, cap, rfl, hr⟩ := hv
  have HR : Hid _ := hr
  have HNE : Hid (∀ i, i < ps.length → 1 ≤ (ps.getD i []).length) := hne
  have BA : Hid (Below w.heap.size w (w.alloc (.cells #[.int .i64 k, .int .u8 s] 55))) := (Below.refl _ _).alloc (Nat.le_refl _) _
  have RN : Hid (NB (w.alloc (.cells #[.int .i64 k, .int .u8 s] 55)) w.heap.size k s) := NB.new w k s
  show Calls Tryd.prog 25 #[.agg #[.int .i64 k, .int .u8 s], .slice a ps.length cap] w _
  clear hr hne
  go_enter Tryd.func25, Tryd.ntmps25
  go_wp2_with fail
  go_loopw [5, 6] (fun vo vi wr => ∃ i : Nat, i ≤ ps.length ∧ vi = .int .i64 i ∧ wr.ownsRow (w.heap.size + 1) 55 2 vo (ps.take i).flatten.length (ndC (ps.take i).flatten) ∧ NB wr w.heap.size k s ∧ Below w.heap.size w wr) (fun _ vi _ => ps.length - (intOf vi).toNat)
  case atStart => exact ⟨0, Nat.zero_le _, rfl, World.ownsRow_nil _ _ _ _, RN.out, BA.out⟩
  case round =>
    clear RN BA
    obtain ⟨i, hi, rfl, ho, hnb, hb⟩ := hrel
    obtain ⟨X, hX⟩ : ∃ X, (ps.take i).flatten = X := ⟨_, rfl⟩
    rw [hX] at ho
    have hXl : X.length ≤ 4000 := by
      have := tot_le (ps := ps) i
      unfold tot at this
      rw [hX] at this
      unfold tot at ht
      omega
    have HX : Hid ((ps.take i).flatten = X) := hX
    obtain ⟨oa, oc, rfl⟩ := own_shape ho
    have HO : Hid (wr.ownsRow (w.heap.size + 1) 55 2 (.slice oa X.length oc) X.length (ndC X)) := ho
    have HNB : Hid (NB wr w.heap.size k s) := hnb
    have HB : Hid (Below w.heap.size w wr) := hb
    have hws : w.heap.size + 1 ≤ wr.heap.size := hnb.lt
    clear ho hnb hb hX
    by_cases hlt : i < ps.length
    · have hiI : (i : Int) < ps.length := by omega
      obtain ⟨g, o, u, rfl, hgl, hc, hu⟩ := HR.out i hlt
      have cc : wr.cell? ⟨g, o + i, none⟩ = some u := by rw [below_cell HB.out hgl]; exact hc
      obtain ⟨p, hp⟩ : ∃ p, ps.getD i [] = p := ⟨_, rfl⟩
      have hp1 := HNE.out i hlt
      have hpt := tot_next hlt
      have htl := tot_le (ps := ps) (i + 1)
      rw [hp] at hu hp1 hpt
      have hsum : X.length + p.length ≤ 4000 := by
        have e : tot (ps.take i) = X.length := by unfold tot; rw [HX.out]
        omega
      have HU : Hid (NReads wr u p) := hu.stay HB.out
      obtain ⟨au, cu, rfl, hx⟩ := hu
      obtain ⟨g2, o2, rfl, _⟩ := hx 0 (by omega)
      have HCS : Hid (∀ j u, (ndC p)[j]? = some u → wr.cell? ((⟨g2, o2, none⟩ : Addr).add j) = some u) := nreads_cells HU.out
      have hcl := ndC_length p
      have hc1 := ndC_one p
      have HF : Hid ((ps.take (i + 1)).flatten = X ++ p) := by show _ = _; rw [flat_next hlt, HX.out, hp]
      clear hx hc hp hpt htl
      go_wp2_with (at_builtin; refine wpList_append_own _ rfl _ _ 22 rfl (w.heap.size + 1) 55 i0 (.agg #[.int .i64 0, .int .u8 0]) 2 16 Tryd.underlying22 hi0 hz0 hz1 hz2 rfl (by decide) _ _ _ rfl HO.out ⟨g2, o2, none⟩ p.length cu (ndC p) rfl hcl HCS.out hc1 (by unfold maxLen; omega) (by omega) hws ?_)
      intro v2 w2 ho2 hg2 _
      have HO2 : Hid (w2.ownsRow (w.heap.size + 1) 55 2 v2 (X ++ p).length (ndC (X ++ p))) := by
        show World.ownsRow _ _ _ _ _ _ _
        rw [ndC_append, List.length_append]
        exact ho2
      have HNB2 : Hid (NB w2 w.heap.size k s) := HNB.out.grown hg2 (fun e => by have := (HO.out.lt _ e).1; omega)
      have HB2 : Hid (Below w.heap.size w w2) := HB.out.grown hg2 HB.out.size (fun k' hk' => by have := (HO.out.lt _ hk').1; omega)
      clear ho2 hg2
      go_wp2_with fail
      go_roundw
      case rel => exact ⟨i + 1, by omega, by go_num, by rw [HF.out]; exact HO2.out, HNB2.out, HB2.out⟩
      case measure => simp [intOf]; omega
    · have hiI : ¬ (i : Int) < ps.length := by omega
      obtain rfl : i = ps.length := by omega
      rw [List.take_length] at HX
      have c0 := HNB.out.fst
      have c1 := HNB.out.snd
      go_wp2_with (at_builtin; refine wpList_append_own _ rfl _ _ 22 rfl (w.heap.size + 1) 55 i0 (.agg #[.int .i64 0, .int .u8 0]) 2 16 Tryd.underlying22 hi0 hz0 hz1 hz2 rfl (by decide) _ _ _ rfl (HO.out.alloc _) ⟨wr.heap.size, 0, none⟩ 1 1 [.int .i64 k, .int .u8 s] rfl rfl ?f1 ?f2 ?f3 ?f4 ?f5 ?_)
      case f2 => exact ⟨rfl, rfl⟩
      case f3 => unfold maxLen; omega
      case f4 => omega
      case f5 => first | omega | (simp; omega)
      intro v2 w2 ho2 hg2 _
      have HO2 : Hid (w2.ownsRow w.heap.size 55 2 v2 (X ++ [(k, s)]).length (ndC (X ++ [(k, s)]))) := by
        show World.ownsRow _ _ _ _ _ _ _
        rw [ndC_append, List.length_append]
        exact own_mono ho2 (by omega)
      have HB2 : Hid (Below w.heap.size w w2) := (HB.out.alloc HB.out.size _).grown hg2 (by have := HB.out.size; simp; omega) (fun k' hk' => by have := (HO.out.lt _ hk').1; omega)
      clear ho2 hg2
      go_wp2_with fail
      go_ret
      refine ⟨_, rfl, ?_, HB2.out⟩
      rw [HX.out]
      exact HO2.out

end Go.Proofs.YtfdkkiecibdblaaDoor
