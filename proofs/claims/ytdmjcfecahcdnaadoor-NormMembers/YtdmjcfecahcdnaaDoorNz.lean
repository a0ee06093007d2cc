/- Lists of lists that a call told, with room behind the list: ApartNodes of them. -/
import Derived.Test.YtdmjcfecahcdnaaDoorOa
import Derived.Test.YtdmjcfecahcdnaaDoorNt
namespace Go.Proofs.YtdmjcfecahcdnaaDoor
open Go Go.RowKit

/-- What stands when i lists have been copied and grown. -/
structure Grown3 (Z : List Value) (N B G : Nat) (a : Nat → Option Addr) (n c : Nat → Nat) (w wr : World) (vgr : Value) (i : Nat) (Gv : Nat → Value) : Prop where
  list : wr.heap[G]? = some (.cells ((List.range N).map (vv a n c) ++ Z).toArray 22 (0, 0))
  rows : ∀ j, j < N → wr.ownsRow B 52 2 (vv a n c j) (n j) (ndC (List.replicate (n j) (mark (1000 + j))))
  grown : wr.ownsRow w.heap.size 22 1 vgr i ((List.range i).map Gv)
  copies : ∀ j, j < i → wr.ownsRow B 52 2 (Gv j) (n j + 40) (ndC (List.replicate (n j) (mark (1000 + j)) ++ List.replicate 40 (mark (2000 + j))))
  apart : ∀ j, j < i → ∀ j', j' < N → j' ≠ j → ∀ b, (Gv j).ownBlock = some b → (vv a n c j').ownBlock ≠ some b
  below : Below B w wr
theorem Grown3.mid {Z : List Value} {N B G : Nat} {a : Nat → Option Addr} {n c : Nat → Nat} {w wr w2 : World} {vgr g : Value} {i m : Nat} {Gv : Nat → Value} (h : Grown3 Z N B G a n c w wr vgr i Gv) (hi : i < N) (hg : Grow B w wr (vv a n c i) (n i) (1000 + i) (2000 + i) w2 g m) :
    w2.ownsRow w.heap.size 22 1 vgr i ((List.range i).map Gv) :=
  own_of_heap h.grown (fun b hb => hg.others b (h.grown.lt b hb).2 (own_apart h.grown (h.rows i hi) (by decide) b hb))
theorem Grown3.midList {Z : List Value} {N B G : Nat} {a : Nat → Option Addr} {n c : Nat → Nat} {w wr w2 : World} {vgr g : Value} {i m : Nat} {Gv : Nat → Value} (h : Grown3 Z N B G a n c w wr vgr i Gv) (hi : i < N) (hg : Grow B w wr (vv a n c i) (n i) (1000 + i) (2000 + i) w2 g m) :
    w2.heap[G]? = some (.cells ((List.range N).map (vv a n c) ++ Z).toArray 22 (0, 0)) := by
  rw [hg.others G (Array.getElem?_eq_some_iff.1 h.list).1 (list_apart h.list (h.rows i hi))]
  exact h.list
theorem Grown3.step {Z : List Value} {N B G : Nat} {a : Nat → Option Addr} {n c : Nat → Nat} {w wr w2 w3 : World} {vgr v' g : Value} {i : Nat} {Gv : Nat → Value} {o : Obj} (h : Grown3 Z N B G a n c w wr vgr i Gv) (hi : i < N) (hd : ∀ j j', j < N → j' < N → j ≠ j' → ∀ b, (vv a n c j).ownBlock = some b → (vv a n c j').ownBlock ≠ some b)
    (hg : Grow B w wr (vv a n c i) (n i) (1000 + i) (2000 + i) w2 g 40) (hB : B ≤ w.heap.size) (hown : w3.ownsRow w.heap.size 22 1 v' (i + 1) ((List.range i).map Gv ++ [g])) (hgr : (w2.alloc o).grownBy w3 vgr.ownBlock) (hGw : G < w.heap.size) :
    Grown3 Z N B G a n c w w3 v' (i + 1) (fun j => if j = i then g else Gv j) := by
  have hmid := h.mid hi hg
  have hsz : (w2.alloc o).heap.size = w2.heap.size + 1 := by simp
  have hs := hg.size
  -- a row of numbers stands behind the append to the list of lists
  have keep : ∀ {v : Value} {k : Nat} {xs : List Value}, w2.ownsRow B 52 2 v k xs → w3.ownsRow B 52 2 v k xs := by
    intro v k xs hv
    refine own_of_heap hv (fun b hb => ?_)
    have hbl := (hv.lt b hb).2
    rw [hgr.block b (by omega) (fun e => own_apart hv hmid (by decide) b hb e.symm), Below.heap_alloc _ _ _ hbl]
  have rows2 : ∀ j, j < N → w2.ownsRow B 52 2 (vv a n c j) (n j) (ndC (List.replicate (n j) (mark (1000 + j)))) := by
    intro j hj
    by_cases e : j = i
    · subst e; exact hg.row
    · exact own_of_heap (h.rows j hj) (fun b hb => hg.others b ((h.rows j hj).lt b hb).2 (hd j i hj hi e b hb))
  refine ⟨?_, fun j hj => keep (rows2 j hj), ?_, ?_, ?_, ?_⟩
  · have hl := h.midList hi hg
    have hlt := (Array.getElem?_eq_some_iff.1 hl).1
    rw [hgr.block G (by omega) (fun e => by have := (hmid.lt G e.symm).1; omega), Below.heap_alloc _ _ _ hlt]
    exact hl
  · have e : (List.range (i + 1)).map (fun j => if j = i then g else Gv j) = (List.range i).map Gv ++ [g] := by
      rw [List.range_succ, List.map_append]
      congr 1
      · apply List.map_congr_left
        intro j hj
        rw [List.mem_range] at hj
        rw [if_neg (by omega)]
      · simp
    rw [e]
    exact hown
  · intro j hj
    by_cases e : j = i
    · subst e
      simp only [if_true]
      exact keep hg.copy
    · simp only [if_neg e]
      have hc := h.copies j (by omega)
      exact keep (own_of_heap hc (fun b hb => hg.others b (hc.lt b hb).2 (h.apart j (by omega) i hi (fun x => e x.symm) b hb)))
  · intro j hj j' hj' hne b hb
    by_cases e : j = i
    · subst e
      simp only [if_true] at hb
      rcases hg.place with hp | ⟨b', hp, hb'⟩
      · rw [hp] at hb
        exact hd j j' (by omega) hj' (fun x => hne x.symm) b hb
      · rw [hp] at hb
        simp only [Option.some.injEq] at hb
        subst hb
        intro hx
        have := ((h.rows j' hj').lt b' hx).2
        omega
    · simp only [if_neg e] at hb
      exact h.apart j (by omega) j' hj' hne b hb
  · exact (hg.below.alloc (by have := hg.below.size; omega) o).grown hgr (by have := hg.below.size; omega) (fun k hk => by have := (hmid.lt k hk).1; omega)

/-- What stands when the first i lists are marked. -/
structure Marked3 (Z : List Value) (N B G : Nat) (a : Nat → Option Addr) (n c : Nat → Nat) (X : Nat → List Nd) (w wr : World) (i : Nat) : Prop where
  list : wr.heap[G]? = some (.cells ((List.range N).map (vv a n c) ++ Z).toArray 22 (0, 0))
  rows : ∀ j, j < N → wr.ownsRow B 52 2 (vv a n c j) (n j) (ndC (if j < i then List.replicate (n j) (mark (1000 + j)) else X j))
  below : Below B w wr
theorem cell_list3 {Z : List Value} {w : World} {N G : Nat} {a : Nat → Option Addr} {n c : Nat → Nat} (h : w.heap[G]? = some (.cells ((List.range N).map (vv a n c) ++ Z).toArray 22 (0, 0))) (i : Nat) (hi : i < N) : w.cell? ⟨G, i, none⟩ = some (.slice (a i) (n i) (c i)) := by
  simp only [World.cell?, h]
  have : (((List.range N).map (vv a n c) ++ Z).toArray)[i]? = some (vv a n c i) := by
    rw [List.getElem?_toArray, List.getElem?_append_left (by simpa using hi), List.getElem?_map, List.getElem?_range hi]
    rfl
  simpa [vv] using this


set_option maxHeartbeats 4000000 in
set_option maxRecDepth 100000 in
theorem apart_any3 (Z : List Value) (N B G cp : Nat) (a : Nat → Option Addr) (n c : Nat → Nat) (X : Nat → List Nd) (w : World) (hG : w.heap[G]? = some (.cells ((List.range N).map (vv a n c) ++ Z).toArray 22 (0, 0)))
    (hrow : ∀ j, j < N → w.ownsRow B 52 2 (vv a n c j) (n j) (ndC (X j))) (hlen : ∀ j, j < N → n j ≤ 1048576) (hX : ∀ j, j < N → (X j).length = n j)
    (hd : ∀ j j', j < N → j' < N → j ≠ j' → ∀ b, (vv a n c j).ownBlock = some b → (vv a n c j').ownBlock ≠ some b) (hB : B ≤ w.heap.size) (hN : 0 < N) (hN2 : N ≤ 1048576) :
    Calls Tryd.prog 23 #[.slice (some ⟨G, 0, none⟩) N cp] w fun e w' => e = .returned (.bool true) ∧ Below B w w' := by
  have HX : Hid _ := hX
  have HD : Hid _ := hd
  have HL : Hid (∀ j, j < N → n j ≤ 1048576) := hlen
  have hGw : G < w.heap.size := (Array.getElem?_eq_some_iff.1 hG).1
  have HM0 : Hid (Marked3 Z N B G a n c X w w 0) := ⟨hG, fun j hj => by rw [if_neg (by omega)]; exact hrow j hj, Below.refl _ _⟩
  clear hX hd hlen hG hrow
  go_enter Tryd.func23, Tryd.ntmps23
  go_wp2_with fail
  go_loopw [4] (fun vi wr => ∃ i : Nat, vi = .int .i64 i ∧ i ≤ N ∧ Marked3 Z N B G a n c X w wr i) (fun vi _ => N - (intOf vi).toNat)
  case atStart => exact ⟨0, rfl, by omega, HM0.out⟩
  case round =>
    obtain ⟨i, rfl, hi, hM⟩ := hrel
    obtain ⟨W0, hW0⟩ : ∃ W0, W0 = wr := ⟨_, rfl⟩
    subst hW0
    have HM : Hid (Marked3 Z N B G a n c X w W0 i) := hM
    clear hM
    by_cases hi2 : i < N
    · have hcG := cell_list3 HM.out.list i hi2
      have hiI : (i : Int) < N := by omega
      have hni := HL.out i hi2
      go_wp2_with fail
      go_loopw [5] (fun vk w2 => ∃ k : Nat, vk = .int .i64 k ∧ k ≤ n i ∧ Marking B (vv a n c i) (n i) i (X i) w W0 w2 k) (fun vk _ => n i - (intOf vk).toNat)
      case atStart => exact ⟨0, rfl, Nat.zero_le _, fun _ _ => rfl, by
        have := HM.out.rows i hi2
        rw [if_neg (by omega)] at this
        rw [markTo_zero]
        exact this, HM.out.below⟩
      case round =>
        obtain ⟨k, rfl, hk, hMk⟩ := hrel
        have HMk : Hid (Marking B (vv a n c i) (n i) i (X i) w W0 wr k) := hMk
        clear hMk hcG
        have hcG := cell_list3 (by rw [HMk.out.others G (list_apart HM.out.list (HM.out.rows i hi2))]; exact HM.out.list) i hi2
        by_cases hlt : k < n i
        · obtain ⟨g, hg⟩ := own_addr (show wr.ownsRow B 52 2 (.slice (a i) (n i) (c i)) (n i) _ from HMk.out.row) (by omega)
          have hrow2 : wr.ownsRow B 52 2 (.slice (some ⟨g, 0, none⟩) (n i) (c i)) (n i) (ndC (markTo (1000 + i) (X i) k)) := by
            have := HMk.out.row
            unfold vv at this
            rw [hg] at this
            exact this
          have hck := hrow2.cellAt (k * 2) (by omega)
          have hck' := hrow2.cellAt (k * 2 + 1) (by omega)
          have hfk := hrow2.frozenAt (k * 2)
          have hfk' := hrow2.frozenAt (k * 2 + 1)
          have hlm : (markTo (1000 + i) (X i) k).length = n i := by
            have := HX.out i hi2
            simp [markTo]
            omega
          obtain ⟨⟨z, z'⟩, hz⟩ : ∃ z, (markTo (1000 + i) (X i) k).getD k (0, 0) = z := ⟨_, rfl⟩
          rw [(ndC_at _ k (by omega) _ hz).1] at hck
          rw [(ndC_at _ k (by omega) _ hz).2] at hck'
          have HR2 : Hid (Marking B (vv a n c i) (n i) i (X i) w W0 ((wr.setCell ⟨g, k * 2, none⟩ (.int .i64 (1000 + (i : Int)))).setCell ⟨g, k * 2 + 1, none⟩ (.int .u8 0)) (k + 1)) := by
            refine ⟨?_, ?_, ?_⟩
            · intro b hb
              rw [Below.heap_setCell _ _ _ _ (fun e => hb (by unfold vv; rw [hg, e]; rfl)), Below.heap_setCell _ _ _ _ (fun e => hb (by unfold vv; rw [hg, e]; rfl))]
              exact HMk.out.others b hb
            · have r := ((hrow2.stored (k * 2) (.int .i64 ((1000 + i : Nat) : Int))).1.stored (k * 2 + 1) (.int .u8 0)).1
              rw [ndC_set _ _ _ (by omega), markTo_set _ _ _ (by rw [HX.out i hi2]; exact hlt)] at r
              unfold vv
              rw [hg]
              have e : ((1000 + i : Nat) : Int) = 1000 + (i : Int) := by omega
              rw [e] at r
              exact r
            · exact (HMk.out.below.setCell (p := ⟨g, k * 2, none⟩) (hrow2.lt g rfl).1 _).setCell (p := ⟨g, k * 2 + 1, none⟩) (hrow2.lt g rfl).1 _
          rw [hg] at hcG
          clear hrow2 hz hlm hg
          go_wp2_with fail
          go_roundw
          case rel => exact ⟨k + 1, by go_num, by omega, HR2.out⟩
          case measure => simp [intOf]; omega
        · have HE : Hid (k = n i) := by show k = n i; omega
          have HMn : Hid (Marked3 Z N B G a n c X w wr (i + 1)) := by
            refine ⟨?_, ?_, HMk.out.below⟩
            · rw [HMk.out.others G (list_apart HM.out.list (HM.out.rows i hi2))]
              exact HM.out.list
            · intro j hj
              by_cases e : j = i
              · subst e
                rw [if_pos (by omega)]
                have := HMk.out.row
                rw [HE.out, markTo_end _ _ _ (HX.out j hj)] at this
                exact this
              · have hr := HM.out.rows j hj
                have e2 : (j < i + 1) = (j < i) := by
                  apply propext
                  omega
                simp only [e2]
                exact own_of_heap hr (fun b hb => HMk.out.others b (HD.out j i hj hi2 e b hb))
          go_wp2_with fail
          go_roundw
          case rel => exact ⟨i + 1, by go_num, by omega, HMn.out⟩
          case measure => simp [intOf]; omega
    · have HI : Hid (i = N) := by show i = N; omega
      have HG0 : Hid (Grown3 Z N B G a n c w W0 (.slice none 0 0) 0 (fun _ => .slice none 0 0)) := by
        refine ⟨HM.out.list, ?_, World.ownsRow_nil _ _ _ _, fun j hj => by omega, fun j hj => by omega, HM.out.below⟩
        intro j hj
        have := HM.out.rows j hj
        rw [if_pos (by have := HI.out; omega)] at this
        exact this
      have hdi : decide ((i : Int) < N) = false := by rw [decide_eq_false_iff_not]; have := HI.out; omega
      clear HM
      obtain ⟨ti, hti, hz0, hz1, hz2⟩ := info_parts Tryd.info_node
      obtain ⟨tl, htl, hy0, hy1, hy2⟩ := info_parts Tryd.info_nodes
      go_wp2_with fail
      clear hdi
      go_loopw [3, 6] (fun vgr vj wr => ∃ (j : Nat) (Gv : Nat → Value), vj = .int .i64 j ∧ j ≤ N ∧ Grown3 Z N B G a n c w wr vgr j Gv) (fun _ vj _ => N - (intOf vj).toNat)
      case atStart => exact ⟨0, _, rfl, by omega, HG0.out⟩
      case round =>
        obtain ⟨j, Gv, rfl, hj, hGr⟩ := hrel
        obtain ⟨W1, hW1⟩ : ∃ W1, W1 = wr := ⟨_, rfl⟩
        subst hW1
        obtain ⟨va, vcap, rfl⟩ := own_shape hGr.grown
        have HGr : Hid (Grown3 Z N B G a n c w W1 (.slice va j vcap) j Gv) := hGr
        clear hGr HG0
        by_cases hj2 : j < N
        · have hcG := cell_list3 HGr.out.list j hj2
          have hjI : (j : Int) < N := by omega
          have hnj := HL.out j hj2
          go_wp2_with fail
          go_loopw [7, 8] (fun g vm w2 => ∃ m : Nat, vm = .int .i64 m ∧ m ≤ 40 ∧ Grow B w W1 (vv a n c j) (n j) (1000 + j) (2000 + j) w2 g m) (fun _ vm _ => 40 - (intOf vm).toNat)
          case atStart => exact ⟨0, rfl, by omega, fun _ _ _ => rfl, HGr.out.rows j hj2, by
            have := HGr.out.rows j hj2
            simpa [vv] using this, .inl rfl, Nat.le_refl _, HGr.out.below⟩
          case round =>
            obtain ⟨m, rfl, hm, hgrow⟩ := hrel
            obtain ⟨ga, gcap, rfl⟩ := own_shape hgrow.copy
            have HGm : Hid (Grow B w W1 (vv a n c j) (n j) (1000 + j) (2000 + j) wr (.slice ga (n j + m) gcap) m) := hgrow
            clear hgrow
            have hBW : B ≤ W1.heap.size := Nat.le_trans hB HGr.out.below.size
            have ed : ((2000 + j : Nat) : Int) = 2000 + (j : Int) := by omega
            by_cases hm40 : m < 40
            · have hcells : ∀ ad : Addr, ga = some ad → ∀ t u, (ndC (List.replicate (n j) (mark (1000 + j)) ++ List.replicate m (mark (2000 + j))))[t]? = some u → (wr.alloc (.cells #[.int .i64 (2000 + (j : Int)), .int .u8 0] 52)).cell? (ad.add t) = some u := by
                intro ad had t u hu
                subst had
                have ho := HGm.out.copy.alloc (.cells #[.int .i64 (2000 + (j : Int)), .int .u8 0] 52)
                obtain ⟨_, hh⟩ := ho
                rcases hh with ⟨hv, _⟩ | ⟨g', cap', cur, hv, _⟩
                · simp at hv
                · simp at hv
                  obtain ⟨rfl, rfl⟩ := hv
                  exact (HGm.out.copy.alloc (.cells #[.int .i64 (2000 + (j : Int)), .int .u8 0] 52)).cells (g := g') rfl t u hu
              have HCe : Hid _ := hcells
              clear hcells
              have hlenc : (ndC (List.replicate (n j) (mark (1000 + j)) ++ List.replicate m (mark (2000 + j)))).length = (n j + m) * 2 := by rw [ndC_length]; simp
              have HLc : Hid _ := hlenc
              clear hlenc
              by_cases hroom : n j + m + 1 ≤ gcap
              · obtain ⟨b, hb⟩ : ∃ b, ga = some ⟨b, 0, none⟩ := by
                  obtain ⟨_, hh⟩ := HGm.out.copy
                  rcases hh with ⟨hv, _⟩ | ⟨g', cap', cur, hv, _⟩
                  · simp at hv; omega
                  · simp at hv
                    exact ⟨g', hv.1⟩
                subst hb
                have HN : Hid _ := HGm.out.room hroom (.cells #[.int .i64 (2000 + (j : Int)), .int .u8 0] 52) hBW
                have hcopy := HGm.out.copy.alloc (.cells #[.int .i64 (2000 + (j : Int)), .int .u8 0] 52)
                have HCp : Hid _ := hcopy
                clear hcopy
                go_wp2_with (at_builtin; refine wpList_append_arg _ rfl _ _ 22 rfl 52 ti (.agg #[.int .i64 0, .int .u8 0]) 2 16 Tryd.underlying22 hti hz0 hz1 hz2 rfl (by decide) b 0 (n j + m) gcap (ndC (List.replicate (n j) (mark (1000 + j)) ++ List.replicate m (mark (2000 + j)))) rfl ?c0 ?c1 ⟨wr.heap.size, 0, none⟩ 1 1 [.int .i64 (2000 + (j : Int)), .int .u8 0] rfl rfl ?c2 ?c3 ?c4 ?c5 ?c6 ?c7 ?c8)
                case c0 => exact HLc.out
                case c1 =>
                  intro t u hu
                  have := HCe.out ⟨b, 0, none⟩ rfl t u hu
                  rw [addr_at] at this
                  rw [Nat.zero_add]
                  exact this
                case c2 => exact cell_two_new _ _ _ _
                case c3 => intro u hu; simp at hu; rcases hu with rfl | rfl <;> rfl
                case c4 =>
                  intro _ t ht
                  simp at ht
                  rw [Nat.zero_add]
                  exact own_spare HCp.out _ (by omega)
                case c5 => unfold maxLen; omega
                case c6 => omega
                case roundEnd =>
                  have HN2 : Hid (Grow B w W1 (vv a n c j) (n j) (1000 + j) (2000 + j) ((wr.alloc (.cells #[.int .i64 (2000 + (j : Int)), .int .u8 0] 52)).setCells b ((n j + m) * 2) [.int .i64 (2000 + (j : Int)), .int .u8 0]) (.slice (some ⟨b, 0, none⟩) (n j + m + 1) gcap) (m + 1)) := by
                    have h := HN.out
                    rw [ed] at h
                    rw [cells_two]
                    exact h
                  clear HN HCp HCe HLc hcG
                  go_roundw
                  case rel => exact ⟨m + 1, by go_num, by omega, HN2.out⟩
                  case measure => simp [intOf]; omega
                case c8 => intro h; omega
              · go_wp2_with (at_builtin; refine wpList_append_grows _ rfl _ _ 22 rfl 52 ti (.agg #[.int .i64 0, .int .u8 0]) 2 16 Tryd.underlying22 hti hz0 hz1 hz2 rfl (by decide) ga (n j + m) gcap (ndC (List.replicate (n j) (mark (1000 + j)) ++ List.replicate m (mark (2000 + j)))) rfl ?e0 ?e1 ?e2 ⟨wr.heap.size, 0, none⟩ 1 1 [.int .i64 (2000 + (j : Int)), .int .u8 0] rfl rfl ?e3 ?e4 ?e5 ?e6 ?e7 ?e8)
                case e0 =>
                  intro hna
                  obtain ⟨_, hh⟩ := HGm.out.copy
                  rcases hh with ⟨hv, h0⟩ | ⟨g', cap', cur, hv, _⟩
                  · simp at hv
                    exact ⟨h0, hv.2.2⟩
                  · simp [hna] at hv
                case e1 => exact HLc.out
                case e2 => exact HCe.out
                case e3 => exact cell_two_new _ _ _ _
                case e4 => intro u hu; simp at hu; rcases hu with rfl | rfl <;> rfl
                case e5 => omega
                case e6 => unfold maxLen; omega
                case e7 => omega
                case e8 =>
                  intro v' w2 hown hgr
                  have HN2 : Hid (Grow B w W1 (vv a n c j) (n j) (1000 + j) (2000 + j) w2 v' (m + 1)) := by
                    refine HGm.out.fresh (.cells #[.int .i64 (2000 + (j : Int)), .int .u8 0] 52) hBW ?_ hgr
                    rw [ed]
                    simpa using hown
                  clear hown hgr HCe HLc hcG
                  go_wp2_with fail
                  go_roundw
                  case rel => exact ⟨m + 1, by go_num, by omega, HN2.out⟩
                  case measure => simp [intOf]; omega
            · have hm4 : m = 40 := by omega
              subst hm4
              have HMid : Hid (wr.ownsRow w.heap.size 22 1 (.slice va j vcap) j ((List.range j).map Gv)) := HGr.out.mid hj2 HGm.out
              have hsz1 := HGm.out.below.size
              go_wp2_with (at_builtin; refine wpList_append_own _ rfl _ _ 42 rfl w.heap.size 22 tl (.slice none 0 0) 1 24 Tryd.underlying42 htl hy0 hy1 hy2 rfl (by decide) _ _ _ rfl (HMid.out.alloc _) ⟨wr.heap.size, 0, none⟩ 1 1 [.slice ga (n j + 40) gcap] rfl rfl ?f1 ?f2 ?f3 ?f4 ?f5 ?_)
              case f1 => exact cell_one_new _ _ _
              case f2 => intro u hu; simp at hu; subst hu; rfl
              case f3 => unfold maxLen; omega
              case f4 => omega
              case f5 => simp; omega
              intro v' w3 hown hgr _
              have HN3 : Hid (Grown3 Z N B G a n c w w3 v' (j + 1) (fun t => if t = j then .slice ga (n j + 40) gcap else Gv t)) := HGr.out.step hj2 HD.out HGm.out hB hown hgr hGw
              clear hown hgr hcG
              go_wp2_with fail
              go_roundw
              case rel => exact ⟨j + 1, _, by go_num, by omega, HN3.out⟩
              case measure => simp [intOf]; omega
        · have HJ : Hid (j = N) := by show j = N; omega
          obtain ⟨vb, hvb⟩ : ∃ vb, va = some ⟨vb, 0, none⟩ := by
            obtain ⟨_, hh⟩ := HGr.out.grown
            rcases hh with ⟨_, h0⟩ | ⟨g', cap', cur, hv, _⟩
            · have := HJ.out; omega
            · simp at hv
              exact ⟨g', hv.1⟩
          subst hvb
          have hdj : decide ((j : Int) < N) = false := by rw [decide_eq_false_iff_not]; have := HJ.out; omega
          have HCells : Hid (∀ t, t < N → W1.cell? ⟨vb, t, none⟩ = some (Gv t)) := by
            intro t ht
            rw [HGr.out.grown.cellAt t (by have := HJ.out; omega)]
            simp [show t < j by have := HJ.out; omega]
          have HCop : Hid (∀ t, t < N → ∃ gb gc, Gv t = .slice (some ⟨gb, 0, none⟩) (n t + 40) gc ∧ (∀ k, k < n t → W1.cell? ⟨gb, k * 2, none⟩ = some (.int .i64 ((1000 + t : Nat) : Int))) ∧ (∀ k, n t ≤ k → k < n t + 40 → W1.cell? ⟨gb, k * 2, none⟩ = some (.int .i64 ((2000 + t : Nat) : Int)))) := by
            intro t ht
            have hc := HGr.out.copies t (by have := HJ.out; omega)
            obtain ⟨_, hh⟩ := id hc
            rcases hh with ⟨_, h0⟩ | ⟨gb, gc, cur, hv, _⟩
            · omega
            · rw [hv] at hc
              have hln : (List.replicate (n t) (mark (1000 + t)) ++ List.replicate 40 (mark (2000 + t))).length = n t + 40 := by simp
              refine ⟨gb, gc, hv, fun k hk => ?_, fun k hk1 hk2 => ?_⟩
              · rw [hc.cellAt (k * 2) (by omega), (ndC_at _ k (by omega) (mark (1000 + t)) (by rw [List.getD_eq_getElem?_getD, List.getElem?_append_left (by simpa using hk), List.getElem?_replicate, if_pos hk]; rfl)).1]
                rfl
              · rw [hc.cellAt (k * 2) (by omega), (ndC_at _ k (by omega) (mark (2000 + t)) (by rw [List.getD_eq_getElem?_getD, List.getElem?_append_right (by rw [List.length_replicate]; exact hk1), List.length_replicate, List.getElem?_replicate, if_pos (by omega)]; rfl)).1]
                rfl
          have HRow : Hid (∀ t, t < N → 0 < n t → ∃ rb, a t = some ⟨rb, 0, none⟩ ∧ ∀ k, k < n t → W1.cell? ⟨rb, k * 2, none⟩ = some (.int .i64 ((1000 + t : Nat) : Int))) := by
            intro t ht hn0
            have hr : W1.ownsRow B 52 2 (.slice (a t) (n t) (c t)) (n t) _ := HGr.out.rows t ht
            obtain ⟨rb, hrb⟩ := own_addr hr hn0
            rw [hrb] at hr
            refine ⟨rb, hrb, fun k hk => ?_⟩
            rw [hr.cellAt (k * 2) (by omega), (ndC_at _ k (by simpa using hk) (mark (1000 + t)) (by rw [List.getD_eq_getElem?_getD, List.getElem?_replicate, if_pos hk]; rfl)).1]
            rfl
          have HLst : Hid (∀ t, t < N → W1.cell? ⟨G, t, none⟩ = some (.slice (a t) (n t) (c t))) := fun t ht => cell_list3 HGr.out.list t ht
          have HBe : Hid (Below B w W1) := HGr.out.below
          clear HGr
          have hjge : N ≤ j := by have := HJ.out; omega
          go_wp2_with fail
          clear hdj
          go_loop [9] (fun vt => ∃ t : Nat, vt = .int .i64 t ∧ t ≤ N) (fun vt => N - (intOf vt).toNat)
          case atStart => exact ⟨0, rfl, by omega⟩
          case round =>
            obtain ⟨t, rfl, ht⟩ := hrel
            by_cases ht2 : t < N
            · have hcl := HLst.out t ht2
              have hcg := HCells.out t ht2
              obtain ⟨gb, gc, hgv, hlow, hhigh⟩ := HCop.out t ht2
              rw [hgv] at hcg
              have HLow : Hid _ := hlow
              have HHigh : Hid _ := hhigh
              have htI : (t : Int) < N := by omega
              have htj : (t : Int) < j := by omega
              have hnt := HL.out t ht2
              clear hgv hlow hhigh
              go_wp2_with fail
              go_loop [10] (fun vk => ∃ k : Nat, vk = .int .i64 k ∧ k ≤ n t + 40) (fun vk => n t + 40 - (intOf vk).toNat)
              case atStart => exact ⟨0, rfl, by omega⟩
              case round =>
                obtain ⟨k, rfl, hk⟩ := hrel
                by_cases hk40 : k < n t + 40
                · by_cases hkn : k < n t
                  · obtain ⟨rb, hrb, hrc⟩ := HRow.out t ht2 (by omega)
                    have hc1 := hrc k hkn
                    have hc2 := HLow.out k hkn
                    rw [hrb] at hcl
                    have e1 : ((1000 + t : Nat) : Int) = 1000 + (t : Int) := by omega
                    rw [e1] at hc1 hc2
                    have hkI : (k : Int) < (n t : Int) := by omega
                    clear hrc hrb e1
                    go_wp2_with fail
                    go_round
                    case rel => exact ⟨k + 1, by go_num, by omega⟩
                    case measure => simp [intOf]; omega
                  · have hc2 := HHigh.out k (by omega) hk40
                    have e1 : ((2000 + t : Nat) : Int) = 2000 + (t : Int) := by omega
                    rw [e1] at hc2
                    have hkI : decide ((k : Int) < (n t : Int)) = false := by rw [decide_eq_false_iff_not]; omega
                    have hkI2 : (n t : Int) ≤ (k : Int) := by omega
                    clear e1
                    go_wp2_with fail
                    go_round
                    case rel => exact ⟨k + 1, by go_num, by omega⟩
                    case measure => simp [intOf]; omega
                · go_wp2_with fail
                  go_round
                  case rel => exact ⟨t + 1, by go_num, by omega⟩
                  case measure => simp [intOf]; omega
            · go_wp2_with fail
              go_ret
              exact ⟨rfl, HBe.out⟩


theorem apart_told3 {w : World} {base : Nat} {v : Value} {vs : List Value} {ps : List (List Nd)} (h : Told3 w base v vs ps) (hB : base ≤ w.heap.size) (hN : ps.length ≤ 1048576) (hl : ∀ j, j < ps.length → (ps.getD j []).length ≤ 1048576) :
    Calls Tryd.prog 23 #[v] w fun e w' => e = .returned (.bool true) ∧ Below base w w' := by
  have hvl := h.lenv
  have hlist := h.list
  obtain ⟨_, hh⟩ := hlist
  rcases hh with ⟨rfl, h0⟩ | ⟨g, cap, cur, rfl, hbg, hheap, hcap, hmx, hcs, htk⟩
  · exact (apart_none none 0 w).mono fun e w' hh => ⟨hh.1, hh.2.mono hB⟩
  · by_cases h0 : ps.length = 0
    · rw [h0]
      exact (apart_none _ cap w).mono fun e w' hh => ⟨hh.1, hh.2.mono hB⟩
    have hv : ∀ j, j < ps.length → vv (fun j => sA (vs.getD j (.slice none 0 0))) (fun j => (ps.getD j []).length) (fun j => sC (vs.getD j (.slice none 0 0))) j = vs.getD j (.slice none 0 0) := by
      intro j hj
      obtain ⟨a, c, e⟩ := own_shape (h.rows j hj)
      show Value.slice _ _ _ = _
      simp only [e, sA, sC]
    refine apart_any3 (cur.toList.drop ps.length) ps.length base g cap (fun j => sA (vs.getD j (.slice none 0 0))) (fun j => (ps.getD j []).length) (fun j => sC (vs.getD j (.slice none 0 0))) (fun j => ps.getD j []) w ?_ ?_ hl (fun _ _ => rfl) ?_ hB (by omega) hN
    · rw [hheap]
      congr 2
      have e : (List.range ps.length).map (vv (fun j => sA (vs.getD j (.slice none 0 0))) (fun j => (ps.getD j []).length) (fun j => sC (vs.getD j (.slice none 0 0)))) = vs := by
        apply List.ext_getElem?
        intro j
        by_cases hj : j < ps.length
        · have hj2 : j < vs.length := by omega
          simp only [List.getElem?_map, List.getElem?_range hj, Option.map_some]
          rw [hv j hj, List.getD_eq_getElem?_getD, List.getElem?_eq_getElem hj2]
          rfl
        · rw [List.getElem?_eq_none (by rw [List.length_map, List.length_range]; omega), List.getElem?_eq_none (by omega)]
      rw [e, ← htk, Nat.mul_one, List.take_append_drop]
    · intro j hj
      rw [hv j hj]
      exact h.rows j hj
    · intro j j' hj hj' hne
      rw [hv j hj, hv j' hj']
      exact h.apart j j' hj hj' hne
end Go.Proofs.YtdmjcfecahcdnaaDoor
