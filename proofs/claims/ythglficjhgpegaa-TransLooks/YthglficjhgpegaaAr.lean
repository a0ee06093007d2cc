/- Contract of the law's ApartInts at two lists that two calls told, each in memory of its own: it answers true; nothing below the lists' own blocks is written. -/
import Derived.Test.YthglficjhgpegaaAq
namespace Go.Proofs.Ythglficjhgpegaa
open Go.RowKit

theorem Try.info_ints : (Try.prog.info? 22).map (fun i => (i.zero, i.size, i.bytes)) = some (some (.slice none 0 0), 1, 24) := by kernel_rfl
/-- What stands when the first i lists are marked. -/
structure Marked (B G : Nat) (a : Nat → Option Addr) (n c : Nat → Nat) (X : Nat → List Nat) (w wr : World) (i : Nat) : Prop where
  list : wr.heap[G]? = some (.cells #[vv a n c 0, vv a n c 1] 22 (0, 0))
  rows : ∀ j, j < 2 → wr.ownsRow B 3 1 (vv a n c j) (n j) (intCells (if j < i then List.replicate (n j) (1000 + j) else X j))
  below : Below B w wr
/-- What stands when k numbers of list i are marked. -/
structure Marking (B : Nat) (V : Value) (n i : Nat) (X : List Nat) (w W0 wr : World) (k : Nat) : Prop where
  others : ∀ b, V.ownBlock ≠ some b → wr.heap[b]? = W0.heap[b]?
  row : wr.ownsRow B 3 1 V n (intCells (markTo (1000 + i) X k))
  below : Below B w wr
theorem cell_list {w : World} {G : Nat} {a : Nat → Option Addr} {n c : Nat → Nat} (h : w.heap[G]? = some (.cells #[vv a n c 0, vv a n c 1] 22 (0, 0))) (i : Nat) (hi : i < 2) : w.cell? ⟨G, i, none⟩ = some (.slice (a i) (n i) (c i)) := by
  have : i = 0 ∨ i = 1 := by omega
  rcases this with rfl | rfl
  · simp [World.cell?, h, vv]
  · simp [World.cell?, h, vv]
theorem own_addr {w : World} {B : Nat} {a : Option Addr} {n c : Nat} {xs : List Value} (h : w.ownsRow B 3 1 (.slice a n c) n xs) (hn : 0 < n) : ∃ g, a = some ⟨g, 0, none⟩ := by
  obtain ⟨_, h⟩ := h
  rcases h with ⟨_, h0⟩ | ⟨g, cap, cur, hv, _⟩
  · omega
  · simp at hv
    exact ⟨g, hv.1⟩

theorem cells_one (w : World) (b i : Nat) (u : Value) : w.setCells b i [u] = w.setCell ⟨b, i, none⟩ u := by simp [World.setCells]
theorem addr_at (g j : Nat) : (⟨g, 0, none⟩ : Addr).add j = ⟨g, j, none⟩ := by
  cases j with
  | zero => simp [Addr.add]
  | succ j => simp [Addr.add]
theorem own_spare {w : World} {B b n cap : Nat} {e : TypeId} {xs : List Value} (h : w.ownsRow B e 1 (.slice (some ⟨b, 0, none⟩) n cap) n xs) (i : Nat) (hi : i < cap) : (w.cell? ⟨b, i, none⟩).isSome = true ∧ w.frozen? ⟨b, i, none⟩ = false := by
  obtain ⟨_, h⟩ := h
  rcases h with ⟨h, _⟩ | ⟨g, cap', cur, hv, _, r, _, _, r5, _⟩
  · simp at h
  · simp at hv
    obtain ⟨rfl, rfl⟩ := hv
    constructor
    · simp [World.cell?, r]
      omega
    · simp [World.frozen?, r]

set_option maxHeartbeats 4000000 in
set_option maxRecDepth 100000 in
theorem apart_any (B G : Nat) (a : Nat → Option Addr) (n c : Nat → Nat) (X : Nat → List Nat) (w : World) (hG : w.heap[G]? = some (.cells #[vv a n c 0, vv a n c 1] 22 (0, 0)))
    (hrow : ∀ j, j < 2 → w.ownsRow B 3 1 (vv a n c j) (n j) (intCells (X j))) (hlen : ∀ j, j < 2 → n j ≤ 1048576) (hX : ∀ j, j < 2 → (X j).length = n j)
    (hd : ∀ j j', j < 2 → j' < 2 → j ≠ j' → ∀ b, (vv a n c j).ownBlock = some b → (vv a n c j').ownBlock ≠ some b) (hB : B ≤ w.heap.size) :
    Calls Try.prog 27 #[.slice (some ⟨G, 0, none⟩) 2 2] w fun e w' => e = .returned (.bool true) ∧ Below B w w' := by
  have HX : Hid _ := hX
  have HD : Hid _ := hd
  have HL : Hid (∀ j, j < 2 → n j ≤ 1048576) := hlen
  have hGw : G < w.heap.size := (Array.getElem?_eq_some_iff.1 hG).1
  have HM0 : Hid (Marked B G a n c X w w 0) := ⟨hG, fun j hj => by rw [if_neg (by omega)]; exact hrow j hj, Below.refl _ _⟩
  clear hX hd hlen hG hrow
  go_enter Try.func27, Try.ntmps27
  go_wp2_with fail
  go_loopw [4] (fun vi wr => ∃ i : Nat, vi = .int .i64 i ∧ i ≤ 2 ∧ Marked B G a n c X w wr i) (fun vi _ => 2 - (intOf vi).toNat)
  case atStart => exact ⟨0, rfl, by omega, HM0.out⟩
  case round =>
    obtain ⟨i, rfl, hi, hM⟩ := hrel
    obtain ⟨W0, hW0⟩ : ∃ W0, W0 = wr := ⟨_, rfl⟩
    subst hW0
    have HM : Hid (Marked B G a n c X w W0 i) := hM
    clear hM
    by_cases hi2 : i < 2
    · have hcG := cell_list HM.out.list i hi2
      have hiI : (i : Int) < 2 := by omega
      have hni := HL.out i hi2
      go_wp2_with fail
      go_loopw [5] (fun vk w2 => ∃ k : Nat, vk = .int .i64 k ∧ k ≤ n i ∧ Marking B (vv a n c i) (n i) i (X i) w W0 w2 k) (fun vk _ => n i - (intOf vk).toNat)
      case atStart => exact ⟨0, rfl, Nat.zero_le _, fun _ _ => rfl, by
        have := HM.out.rows i hi2
        rw [if_neg (by omega)] at this
        rw [markTo_zero]
        exact this, HM.out.below⟩
      case round =>
        obtain ⟨k, rfl, hk, hMk⟩ := hrel
        have HMk : Hid (Marking B (vv a n c i) (n i) i (X i) w W0 wr k) := hMk
        clear hMk hcG
        have hcG := cell_list (by rw [HMk.out.others G (list_apart HM.out.list (HM.out.rows i hi2))]; exact HM.out.list) i hi2
        by_cases hlt : k < n i
        · obtain ⟨g, hg⟩ := own_addr (show wr.ownsRow B 3 1 (.slice (a i) (n i) (c i)) (n i) _ from HMk.out.row) (by omega)
          have hrow2 : wr.ownsRow B 3 1 (.slice (some ⟨g, 0, none⟩) (n i) (c i)) (n i) (intCells (markTo (1000 + i) (X i) k)) := by
            have := HMk.out.row
            unfold vv at this
            rw [hg] at this
            exact this
          have hck := hrow2.cellAt k (by omega)
          have hfk := hrow2.frozenAt k
          have hlm : (markTo (1000 + i) (X i) k).length = n i := by
            have := HX.out i hi2
            simp [markTo]
            omega
          have hsome : ∃ z : Nat, (intCells (markTo (1000 + i) (X i) k))[k]? = some (.int .i64 (z : Int)) := ⟨(markTo (1000 + i) (X i) k)[k]'(by omega), by simp [intCells, hlm, hlt]⟩
          obtain ⟨z, hz⟩ := hsome
          rw [hz] at hck
          have HR2 : Hid (Marking B (vv a n c i) (n i) i (X i) w W0 (wr.setCell ⟨g, k, none⟩ (.int .i64 (1000 + (i : Int)))) (k + 1)) := by
            refine ⟨?_, ?_, ?_⟩
            · intro b hb
              rw [Below.heap_setCell _ _ _ _ (fun e => hb (by unfold vv; rw [hg, e]; rfl))]
              exact HMk.out.others b hb
            · have r := (hrow2.stored k (.int .i64 ((1000 + i : Nat) : Int))).1
              rw [intCells_set, markTo_set _ _ _ (by rw [HX.out i hi2]; exact hlt)] at r
              unfold vv
              rw [hg]
              have e : ((1000 + i : Nat) : Int) = 1000 + (i : Int) := by omega
              rw [e] at r
              exact r
            · exact HMk.out.below.setCell (p := ⟨g, k, none⟩) (hrow2.lt g rfl).1 _
          rw [hg] at hcG
          clear hrow2 hz hlm hg
          go_wp2_with fail
          go_roundw
          case rel => exact ⟨k + 1, by go_num, by omega, HR2.out⟩
          case measure => simp [intOf]; omega
        · have HE : Hid (k = n i) := by show k = n i; omega
          have HMn : Hid (Marked B G a n c X w wr (i + 1)) := by
            refine ⟨?_, ?_, HMk.out.below⟩
            · rw [HMk.out.others G (list_apart HM.out.list (HM.out.rows i hi2))]
              exact HM.out.list
            · intro j hj
              by_cases e : j = i
              · subst e
                rw [if_pos (by omega)]
                have := HMk.out.row
                rw [HE.out, markTo_end _ _ _ (HX.out j hj)] at this
                exact this
              · have hr := HM.out.rows j hj
                have e2 : (j < i + 1) = (j < i) := by
                  apply propext
                  omega
                simp only [e2]
                exact own_of_heap hr (fun b hb => HMk.out.others b (HD.out j i hj hi2 e b hb))
          go_wp2_with fail
          go_roundw
          case rel => exact ⟨i + 1, by go_num, by omega, HMn.out⟩
          case measure => simp [intOf]; omega
    · have HI : Hid (i = 2) := by show i = 2; omega
      have HG0 : Hid (Grown2 B G a n c w W0 (.slice none 0 0) 0 (fun _ => .slice none 0 0)) := by
        refine ⟨HM.out.list, ?_, World.ownsRow_nil _ _ _ _, fun j hj => by omega, fun j hj => by omega, HM.out.below⟩
        intro j hj
        have := HM.out.rows j hj
        rw [if_pos (by have := HI.out; omega)] at this
        exact this
      have hdi : decide ((i : Int) < 2) = false := by rw [decide_eq_false_iff_not]; have := HI.out; omega
      clear HM
      obtain ⟨ti, hti, hz0, hz1, hz2⟩ := info_parts Try.info_int
      obtain ⟨tl, htl, hy0, hy1, hy2⟩ := info_parts Try.info_ints
      go_wp2_with fail
      clear hdi
      go_loopw [3, 6] (fun vgr vj wr => ∃ (j : Nat) (Gv : Nat → Value), vj = .int .i64 j ∧ j ≤ 2 ∧ Grown2 B G a n c w wr vgr j Gv) (fun _ vj _ => 2 - (intOf vj).toNat)
      case atStart => exact ⟨0, _, rfl, by omega, HG0.out⟩
      case round =>
        obtain ⟨j, Gv, rfl, hj, hGr⟩ := hrel
        obtain ⟨W1, hW1⟩ : ∃ W1, W1 = wr := ⟨_, rfl⟩
        subst hW1
        obtain ⟨va, vcap, rfl⟩ := own_shape hGr.grown
        have HGr : Hid (Grown2 B G a n c w W1 (.slice va j vcap) j Gv) := hGr
        clear hGr HG0
        by_cases hj2 : j < 2
        · have hcG := cell_list HGr.out.list j hj2
          have hjI : (j : Int) < 2 := by omega
          have hnj := HL.out j hj2
          go_wp2_with fail
          go_loopw [7, 8] (fun g vm w2 => ∃ m : Nat, vm = .int .i64 m ∧ m ≤ 40 ∧ Grow B w W1 (vv a n c j) (n j) (1000 + j) (2000 + j) w2 g m) (fun _ vm _ => 40 - (intOf vm).toNat)
          case atStart => exact ⟨0, rfl, by omega, fun _ _ _ => rfl, HGr.out.rows j hj2, by
            have := HGr.out.rows j hj2
            simpa [vv] using this, .inl rfl, Nat.le_refl _, HGr.out.below⟩
          case round =>
            obtain ⟨m, rfl, hm, hgrow⟩ := hrel
            obtain ⟨ga, gcap, rfl⟩ := own_shape hgrow.copy
            have HGm : Hid (Grow B w W1 (vv a n c j) (n j) (1000 + j) (2000 + j) wr (.slice ga (n j + m) gcap) m) := hgrow
            clear hgrow
            have hBW : B ≤ W1.heap.size := Nat.le_trans hB HGr.out.below.size
            have ed : ((2000 + j : Nat) : Int) = 2000 + (j : Int) := by omega
            by_cases hm40 : m < 40
            · have hcells : ∀ ad : Addr, ga = some ad → ∀ t u, (intCells (List.replicate (n j) (1000 + j) ++ List.replicate m (2000 + j)))[t]? = some u → (wr.alloc (.cells #[.int .i64 (2000 + (j : Int))] 3)).cell? (ad.add t) = some u := by
                intro ad had t u hu
                subst had
                have ho := HGm.out.copy.alloc (.cells #[.int .i64 (2000 + (j : Int))] 3)
                obtain ⟨_, hh⟩ := ho
                rcases hh with ⟨hv, _⟩ | ⟨g', cap', cur, hv, _⟩
                · simp at hv
                · simp at hv
                  obtain ⟨rfl, rfl⟩ := hv
                  exact (HGm.out.copy.alloc (.cells #[.int .i64 (2000 + (j : Int))] 3)).cells (g := g') rfl t u hu
              have HCe : Hid _ := hcells
              clear hcells
              have hlenc : (intCells (List.replicate (n j) (1000 + j) ++ List.replicate m (2000 + j))).length = (n j + m) * 1 := by simp [intCells]
              have HLc : Hid _ := hlenc
              clear hlenc
              by_cases hroom : n j + m + 1 ≤ gcap
              · obtain ⟨b, hb⟩ : ∃ b, ga = some ⟨b, 0, none⟩ := by
                  obtain ⟨_, hh⟩ := HGm.out.copy
                  rcases hh with ⟨hv, _⟩ | ⟨g', cap', cur, hv, _⟩
                  · simp at hv; omega
                  · simp at hv
                    exact ⟨g', hv.1⟩
                subst hb
                have HN : Hid _ := HGm.out.room hroom (.cells #[.int .i64 (2000 + (j : Int))] 3) hBW
                have hcopy := HGm.out.copy.alloc (.cells #[.int .i64 (2000 + (j : Int))] 3)
                have HCp : Hid _ := hcopy
                clear hcopy
                go_wp2_with (at_builtin; refine wpList_append_arg _ rfl _ _ 22 rfl 3 ti (.int .i64 0) 1 8 Try.underlying22 hti hz0 hz1 hz2 rfl (by decide) b 0 (n j + m) gcap (intCells (List.replicate (n j) (1000 + j) ++ List.replicate m (2000 + j))) rfl ?c0 ?c1 ⟨wr.heap.size, 0, none⟩ 1 1 [.int .i64 (2000 + (j : Int))] rfl rfl ?c2 ?c3 ?c4 ?c5 ?c6 ?c7 ?c8)
                case c0 => exact HLc.out
                case c1 =>
                  intro t u hu
                  have := HCe.out ⟨b, 0, none⟩ rfl t u hu
                  rw [addr_at] at this
                  rw [Nat.zero_add]
                  exact this
                case c2 => exact cell_one_new _ _ _
                case c3 => intro u hu; simp at hu; subst hu; rfl
                case c4 =>
                  intro _ t ht
                  simp at ht
                  subst ht
                  have e : 0 + (n j + m) * 1 + 0 = n j + m := by omega
                  rw [e]
                  exact own_spare HCp.out (n j + m) (by omega)
                case c5 => unfold maxLen; omega
                case c6 => omega
                case roundEnd =>
                  have HN2 : Hid (Grow B w W1 (vv a n c j) (n j) (1000 + j) (2000 + j) ((wr.alloc (.cells #[.int .i64 (2000 + (j : Int))] 3)).setCells b (n j + m) [.int .i64 (2000 + (j : Int))]) (.slice (some ⟨b, 0, none⟩) (n j + m + 1) gcap) (m + 1)) := by
                    have h := HN.out
                    rw [ed] at h
                    rw [cells_one]
                    exact h
                  clear HN HCp HCe HLc hcG
                  go_roundw
                  case rel => exact ⟨m + 1, by go_num, by omega, HN2.out⟩
                  case measure => simp [intOf]; omega
                case c8 => intro h; omega
              · go_wp2_with (at_builtin; refine wpList_append_grows _ rfl _ _ 22 rfl 3 ti (.int .i64 0) 1 8 Try.underlying22 hti hz0 hz1 hz2 rfl (by decide) ga (n j + m) gcap (intCells (List.replicate (n j) (1000 + j) ++ List.replicate m (2000 + j))) rfl ?e0 ?e1 ?e2 ⟨wr.heap.size, 0, none⟩ 1 1 [.int .i64 (2000 + (j : Int))] rfl rfl ?e3 ?e4 ?e5 ?e6 ?e7 ?e8)
                case e0 =>
                  intro hna
                  obtain ⟨_, hh⟩ := HGm.out.copy
                  rcases hh with ⟨hv, h0⟩ | ⟨g', cap', cur, hv, _⟩
                  · simp at hv
                    exact ⟨h0, hv.2.2⟩
                  · simp [hna] at hv
                case e1 => exact HLc.out
                case e2 => exact HCe.out
                case e3 => exact cell_one_new _ _ _
                case e4 => intro u hu; simp at hu; subst hu; rfl
                case e5 => omega
                case e6 => unfold maxLen; omega
                case e7 => omega
                case e8 =>
                  intro v' w2 hown hgr
                  have HN2 : Hid (Grow B w W1 (vv a n c j) (n j) (1000 + j) (2000 + j) w2 v' (m + 1)) := by
                    refine HGm.out.fresh (.cells #[.int .i64 (2000 + (j : Int))] 3) hBW ?_ hgr
                    rw [ed]
                    simpa using hown
                  clear hown hgr HCe HLc hcG
                  go_wp2_with fail
                  go_roundw
                  case rel => exact ⟨m + 1, by go_num, by omega, HN2.out⟩
                  case measure => simp [intOf]; omega
            · have hm4 : m = 40 := by omega
              subst hm4
              have HMid : Hid (wr.ownsRow w.heap.size 22 1 (.slice va j vcap) j ((List.range j).map Gv)) := HGr.out.mid hj2 HGm.out
              have hsz1 := HGm.out.below.size
              go_wp2_with (at_builtin; refine wpList_append_own _ rfl _ _ 106 rfl w.heap.size 22 tl (.slice none 0 0) 1 24 Try.underlying106 htl hy0 hy1 hy2 rfl (by decide) _ _ _ rfl (HMid.out.alloc _) ⟨wr.heap.size, 0, none⟩ 1 1 [.slice ga (n j + 40) gcap] rfl rfl ?f1 ?f2 ?f3 ?f4 ?f5 ?_)
              case f1 => exact cell_one_new _ _ _
              case f2 => intro u hu; simp at hu; subst hu; rfl
              case f3 => unfold maxLen; omega
              case f4 => omega
              case f5 => simp; omega
              intro v' w3 hown hgr _
              have HN3 : Hid (Grown2 B G a n c w w3 v' (j + 1) (fun t => if t = j then .slice ga (n j + 40) gcap else Gv t)) := HGr.out.step hj2 HD.out HGm.out hB hown hgr hGw
              clear hown hgr hcG
              go_wp2_with fail
              go_roundw
              case rel => exact ⟨j + 1, _, by go_num, by omega, HN3.out⟩
              case measure => simp [intOf]; omega
        · have HJ : Hid (j = 2) := by show j = 2; omega
          obtain ⟨vb, hvb⟩ : ∃ vb, va = some ⟨vb, 0, none⟩ := by
            obtain ⟨_, hh⟩ := HGr.out.grown
            rcases hh with ⟨_, h0⟩ | ⟨g', cap', cur, hv, _⟩
            · have := HJ.out; omega
            · simp at hv
              exact ⟨g', hv.1⟩
          subst hvb
          have hdj : decide ((j : Int) < 2) = false := by rw [decide_eq_false_iff_not]; have := HJ.out; omega
          have HCells : Hid (∀ t, t < 2 → W1.cell? ⟨vb, t, none⟩ = some (Gv t)) := by
            intro t ht
            rw [HGr.out.grown.cellAt t (by have := HJ.out; omega)]
            simp [show t < j by have := HJ.out; omega]
          have HCop : Hid (∀ t, t < 2 → ∃ gb gc, Gv t = .slice (some ⟨gb, 0, none⟩) (n t + 40) gc ∧ (∀ k, k < n t → W1.cell? ⟨gb, k, none⟩ = some (.int .i64 ((1000 + t : Nat) : Int))) ∧ (∀ k, n t ≤ k → k < n t + 40 → W1.cell? ⟨gb, k, none⟩ = some (.int .i64 ((2000 + t : Nat) : Int)))) := by
            intro t ht
            have hc := HGr.out.copies t (by have := HJ.out; omega)
            obtain ⟨_, hh⟩ := id hc
            rcases hh with ⟨_, h0⟩ | ⟨gb, gc, cur, hv, _⟩
            · omega
            · rw [hv] at hc
              refine ⟨gb, gc, hv, fun k hk => ?_, fun k hk1 hk2 => ?_⟩
              · rw [hc.cellAt k (by omega)]
                simp [intCells, List.getElem?_append_left, hk]
              · rw [hc.cellAt k (by omega)]
                have e : (intCells (List.replicate (n t) (1000 + t) ++ List.replicate 40 (2000 + t)))[k]? = some (Value.int .i64 ((2000 + t : Nat) : Int)) := by
                  unfold intCells
                  rw [List.getElem?_map, List.getElem?_append_right (by rw [List.length_replicate]; exact hk1), List.length_replicate, List.getElem?_replicate, if_pos (by omega)]
                  rfl
                exact e
          have HRow : Hid (∀ t, t < 2 → 0 < n t → ∃ rb, a t = some ⟨rb, 0, none⟩ ∧ ∀ k, k < n t → W1.cell? ⟨rb, k, none⟩ = some (.int .i64 ((1000 + t : Nat) : Int))) := by
            intro t ht hn0
            have hr : W1.ownsRow B 3 1 (.slice (a t) (n t) (c t)) (n t) _ := HGr.out.rows t ht
            obtain ⟨rb, hrb⟩ := own_addr hr hn0
            rw [hrb] at hr
            refine ⟨rb, hrb, fun k hk => ?_⟩
            rw [hr.cellAt k (by omega)]
            simp [intCells, hk]
          have HLst : Hid (∀ t, t < 2 → W1.cell? ⟨G, t, none⟩ = some (.slice (a t) (n t) (c t))) := fun t ht => cell_list HGr.out.list t ht
          have HBe : Hid (Below B w W1) := HGr.out.below
          clear HGr
          have hjge : 2 ≤ j := by have := HJ.out; omega
          go_wp2_with fail
          clear hdj
          go_loop [9] (fun vt => ∃ t : Nat, vt = .int .i64 t ∧ t ≤ 2) (fun vt => 2 - (intOf vt).toNat)
          case atStart => exact ⟨0, rfl, by omega⟩
          case round =>
            obtain ⟨t, rfl, ht⟩ := hrel
            by_cases ht2 : t < 2
            · have hcl := HLst.out t ht2
              have hcg := HCells.out t ht2
              obtain ⟨gb, gc, hgv, hlow, hhigh⟩ := HCop.out t ht2
              rw [hgv] at hcg
              have HLow : Hid _ := hlow
              have HHigh : Hid _ := hhigh
              have htI : (t : Int) < 2 := by omega
              have htj : (t : Int) < j := by omega
              have hnt := HL.out t ht2
              clear hgv hlow hhigh
              go_wp2_with fail
              go_loop [10] (fun vk => ∃ k : Nat, vk = .int .i64 k ∧ k ≤ n t + 40) (fun vk => n t + 40 - (intOf vk).toNat)
              case atStart => exact ⟨0, rfl, by omega⟩
              case round =>
                obtain ⟨k, rfl, hk⟩ := hrel
                by_cases hk40 : k < n t + 40
                · by_cases hkn : k < n t
                  · obtain ⟨rb, hrb, hrc⟩ := HRow.out t ht2 (by omega)
                    have hc1 := hrc k hkn
                    have hc2 := HLow.out k hkn
                    rw [hrb] at hcl
                    have e1 : ((1000 + t : Nat) : Int) = 1000 + (t : Int) := by omega
                    rw [e1] at hc1 hc2
                    have hkI : (k : Int) < (n t : Int) := by omega
                    clear hrc hrb e1
                    go_wp2_with fail
                    go_round
                    case rel => exact ⟨k + 1, by go_num, by omega⟩
                    case measure => simp [intOf]; omega
                  · have hc2 := HHigh.out k (by omega) hk40
                    have e1 : ((2000 + t : Nat) : Int) = 2000 + (t : Int) := by omega
                    rw [e1] at hc2
                    have hkI : decide ((k : Int) < (n t : Int)) = false := by rw [decide_eq_false_iff_not]; omega
                    have hkI2 : (n t : Int) ≤ (k : Int) := by omega
                    clear e1
                    go_wp2_with fail
                    go_round
                    case rel => exact ⟨k + 1, by go_num, by omega⟩
                    case measure => simp [intOf]; omega
                · go_wp2_with fail
                  go_round
                  case rel => exact ⟨t + 1, by go_num, by omega⟩
                  case measure => simp [intOf]; omega
            · go_wp2_with fail
              go_ret
              exact ⟨rfl, HBe.out⟩

end Go.Proofs.Ythglficjhgpegaa
