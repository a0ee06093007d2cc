/- trans: walk, common. -/
import Derived.Test.YtihjhkbbpphocaaAi
namespace Go.Proofs.Ytihjhkbbpphocaa
open Go Go.RowKit Go.Lib
set_option linter.unusedVariables false

/-- The cells of 64 ints. -/
def mtC (f : Nat → Nat) : Array Value := ((List.range 64).map fun i => Value.int .i64 ((f i : Nat) : Int)).toArray
theorem mtC_size (f : Nat → Nat) : (mtC f).size = 64 := by simp [mtC]
theorem mtC_get (f : Nat → Nat) {i : Nat} (h : i < 64) : (mtC f)[i]? = some (.int .i64 (f i : Nat)) := by simp [mtC, h]
theorem mtC_set (f : Nat → Nat) {i : Nat} (v : Nat) (h : i < 64) : (mtC f).setIfInBounds i (.int .i64 (v : Int)) = mtC (fun j => if j = i then v else f j) := by
  apply Array.ext_getElem?
  intro k
  rw [Array.getElem?_setIfInBounds]
  by_cases hk : k < 64
  · rw [mtC_get _ hk, mtC_get _ hk, mtC_size]
    by_cases e : i = k
    · rw [if_pos e, if_pos (by omega), if_pos e.symm]
    · rw [if_neg e, if_neg (fun q => e q.symm)]
  · rw [if_neg (by omega), Array.getElem?_eq_none (by rw [mtC_size]; omega), Array.getElem?_eq_none (by rw [mtC_size]; omega)]
def MtAt (w : World) (b : Nat) (f : Nat → Nat) : Prop := w.heap[b]? = some (.cells (mtC f) 88 (0, 0))
theorem MtAt.cell {w : World} {b : Nat} {f : Nat → Nat} (h : MtAt w b f) {i : Nat} (hi : i < 64) : w.cell? ⟨b, i, none⟩ = some (.int .i64 (f i : Nat)) := (cell_blk h).trans (mtC_get f hi)
theorem MtAt.of {w w' : World} {b : Nat} {f : Nat → Nat} (h : MtAt w b f) (e : w'.heap[b]? = w.heap[b]?) : MtAt w' b f := by unfold MtAt at h ⊢; rw [e, h]
theorem MtAt.set {w : World} {b : Nat} {f : Nat → Nat} (h : MtAt w b f) {i : Nat} (v : Nat) (hi : i < 64) : MtAt (w.setCell ⟨b, i, none⟩ (.int .i64 (v : Int))) b (fun j => if j = i then v else f j) := by
  unfold MtAt
  rw [← mtC_set f v hi]
  exact heap_set_same h
/-- What is known behind s steps. -/
structure Wk (f : Nat → Nat) (i s : Nat) (m : Nat → Nat) : Prop where
  apart : ∀ a b, a < b → b < s → orb f i a ≠ orb f i b
  met : ∀ k, k < s → m (orb f i k) = k + 1
  only : ∀ x, m x ≠ 0 → ∃ k, k < s ∧ orb f i k = x
theorem Wk.zero (f : Nat → Nat) (i : Nat) : Wk f i 0 (fun _ => 0) := ⟨fun a b h1 h2 => absurd h2 (by omega), fun k h => absurd h (by omega), fun x h => absurd rfl h⟩
theorem Wk.next {f : Nat → Nat} {i s : Nat} {m : Nat → Nat} (h : Wk f i s m) (h0 : m (orb f i s) = 0) : Wk f i (s + 1) (fun j => if j = orb f i s then s + 1 else m j) := by
  have key : ∀ a, a < s → orb f i a ≠ orb f i s := fun a ha e => by
    have := h.met a ha
    rw [e, h0] at this
    omega
  refine ⟨?_, ?_, ?_⟩
  · intro a b hab hb
    by_cases e : b = s
    · rw [e]; exact key a (by omega)
    · exact h.apart a b hab (by omega)
  · intro k hk
    by_cases e : k = s
    · show (if orb f i k = orb f i s then s + 1 else m (orb f i k)) = k + 1
      rw [e, if_pos rfl]
    · show (if orb f i k = orb f i s then s + 1 else m (orb f i k)) = k + 1
      rw [if_neg (key k (by omega)), h.met k (by omega)]
  · intro x hx
    by_cases e : x = orb f i s
    · exact ⟨s, by omega, e.symm⟩
    · have hx' : (if x = orb f i s then s + 1 else m x) ≠ 0 := hx
      rw [if_neg e] at hx'
      obtain ⟨k, hk, e2⟩ := h.only x hx'
      exact ⟨k, by omega, e2⟩
theorem Wk.le {f : Nat → Nat} {n i s : Nat} {m : Nat → Nat} (h : Wk f i s m) (hf : ∀ i, i < n → f i < n) (hi : i < n) : s ≤ n := by
  have := nodup_le n ((List.range s).map (orb f i)) (map_nodup (fun a b hab hb => h.apart a b hab hb)) (fun x hx => by
    obtain ⟨k, _, rfl⟩ := List.mem_map.1 hx
    exact orb_lt hf hi k)
  simpa using this
theorem Wk.tr {f : Nat → Nat} {i s : Nat} {m : Nat → Nat} (h : Wk f i s m) {t : Nat} (ht : m (orb f i s) = t + 1) : t < s ∧ TR f i t (s - t) := by
  obtain ⟨k, hk, e⟩ := h.only _ (by rw [ht]; omega)
  have h2 := h.met k hk
  rw [e, ht] at h2
  have : t = k := by omega
  subst this
  refine ⟨hk, ⟨fun a b hab hb => h.apart a b hab (by omega), ?_, by omega⟩⟩
  have e2 : t + (s - t) = s := by omega
  rw [e2, e]
structure WkAt (w wr : World) (l : List Nat) (m : Nat → Nat) : Prop where
  src : MvAt wr w.heap.size l.length (im l)
  met : MtAt wr (w.heap.size + 1) m
  below : Below w.heap.size w wr
theorem WkAt.drew {w wr : World} {l : List Nat} {m : Nat → Nat} (h : WkAt w wr l m) : WkAt w wr.drew l m := ⟨h.src.of rfl, h.met.of rfl, h.below.drew⟩
def WkQ (l : List Nat) (i : Nat) (w : World) (e : Ending) (w' : World) : Prop := ∃ t r, TR (im l) i t r ∧ e = .returned (.tuple #[.int .i64 (t : Nat), .int .i64 (r : Nat)]) ∧ Below w.heap.size w w'

set_option maxHeartbeats 4000000 in
set_option maxRecDepth 100000 in
theorem walk_any (l : List Nat) (hl : Tf l) (i : Nat) (hi : i < l.length) (w : World) :
    Calls Try.prog 61 #[.agg (mvC l.length (im l)), .int .i64 i] w (WkQ l i w) := by
  have H0 : Hid (WkAt w ((w.alloc (.cells (mvC l.length (im l)) 79)).alloc (.cells (mtC fun _ => 0) 88)) l (fun _ => 0)) := by
    refine ⟨(mv_last w _ _).of (heap_allo (by simp) _), ?_, ((Below.refl _ _).alloc (Nat.le_refl _) _).alloc (by simp) _⟩
    have := heap_last (w.alloc (.cells (mvC l.length (im l)) 79)) (.cells (mtC fun _ => 0) 88)
    rw [World.size_alloc] at this
    exact this
  have HI : Hid (i < l.length) := hi
  clear hi
  show Calls _ _ _ _ (WkQ l i w)
  go_enter Try.func61, Try.ntmps61
  go_wp2_with fail
  go_loopw [1, 7] (fun vi vs wr => ∃ (s : Nat) (m : Nat → Nat), vi = .int .i64 (orb (im l) i s : Nat) ∧ vs = .int .i64 ((s + 1 : Nat) : Int) ∧ Wk (im l) i s m ∧ WkAt w wr l m) (fun _ vs _ => 70 - (intOf vs).toNat)
  case atStart => exact ⟨0, fun _ => 0, rfl, rfl, Wk.zero _ _, H0.out⟩
  case round =>
    clear H0
    obtain ⟨s, m, rfl, rfl, hW, hF⟩ := hrel
    have HW : Hid (Wk (im l) i s m) := hW
    have HF : Hid (WkAt w wr l m) := hF
    have hle := hW.le hl.lt HI.out
    have hl64 := hl.le
    have hc := orb_lt hl.lt HI.out s
    have hc64 : orb (im l) i s < 64 := by omega
    have hcl := hF.met.cell hc64
    have hc2 := hF.src.cell' hc64
    have hfz : wr.frozen? ⟨w.heap.size + 1, orb (im l) i s, none⟩ = false := frozen_blk hF.met _
    have hnx : im l (orb (im l) i s) = orb (im l) i (s + 1) := rfl
    rw [hnx] at hc2
    have hc3 := orb_lt hl.lt HI.out (s + 1)
    by_cases h0 : m (orb (im l) i s) = 0
    · have HW2 : Hid (Wk (im l) i (s + 1) (fun j => if j = orb (im l) i s then s + 1 else m j)) := hW.next h0
      have HLE : Hid (s + 1 ≤ 64) := Nat.le_trans (HW2.out.le hl.lt HI.out) hl.le
      have HF2 : Hid (WkAt w (wr.setCell ⟨w.heap.size + 1, orb (im l) i s, none⟩ (.int .i64 ((s + 1 : Nat) : Int))) l (fun j => if j = orb (im l) i s then s + 1 else m j)) :=
        ⟨hF.src.of (heap_set_oth (by omega)), hF.met.set _ hc64, hF.below.setCell (p := ⟨w.heap.size + 1, orb (im l) i s, none⟩) (by simp) _⟩
      rw [h0] at hcl
      have HNX : Hid (orb (im l) i (s + 1) = orb (im l) i (s + 1)) := rfl
      obtain ⟨c, hcE⟩ : ∃ c, orb (im l) i s = c := ⟨_, rfl⟩
      obtain ⟨d, hdE⟩ : ∃ d, orb (im l) i (s + 1) = d := ⟨_, rfl⟩
      obtain ⟨q, hqE⟩ : ∃ q, s + 1 = q := ⟨_, rfl⟩
      have HDE : Hid (orb (im l) i q = d) := by show _ = _; rw [← hqE]; exact hdE
      rw [hcE] at hcl hc2 hfz hc64 HF2 HW2 hc ⊢
      rw [hdE] at hc2 hc3
      rw [hqE] at HF2 HW2 HLE ⊢
      have hcI : (c : Int) < 64 := by omega
      have hwd : IntKind.i64.wrap (d : Int) = (d : Int) := IntWalk.i64_in _ (by omega)
      have hq64 : q ≤ 64 := HLE.out
      have hcell3 := (HF2.out.src.cell' (i := c) hc64)
      have hdim : im l c = d := by rw [← hcE]; exact hdE
      rw [hdim] at hcell3
      clear hW hF hnx h0 hcE hdE hqE hdim
      go_wp2_with fail
      go_roundw
      case rel => exact ⟨q, _, by rw [HDE.out], by go_num, HW2.out, HF2.out⟩
      case measure => simp [intOf]; omega
    · obtain ⟨t, ht⟩ : ∃ t, m (orb (im l) i s) = t + 1 := ⟨m (orb (im l) i s) - 1, by omega⟩
      obtain ⟨hts, hT⟩ := hW.tr ht
      rw [ht] at hcl
      have HT : Hid (TR (im l) i t (s - t)) := hT
      obtain ⟨r, hr⟩ : ∃ r, s - t = r := ⟨_, rfl⟩
      rw [hr] at HT
      obtain ⟨c, hcE⟩ : ∃ c, orb (im l) i s = c := ⟨_, rfl⟩
      obtain ⟨q, hqE⟩ : ∃ q, s + 1 = q := ⟨_, rfl⟩
      obtain ⟨u, huE⟩ : ∃ u, t + 1 = u := ⟨_, rfl⟩
      rw [huE] at hcl
      rw [hcE] at hcl hc64 ⊢
      rw [hqE]
      have hcI : (c : Int) < 64 := by omega
      have hu0 : ((u : Int) == 0) = false := by rw [beq_eq_false_iff_ne]; omega
      have hu0' : ¬ (u : Int) = 0 := by omega
      have hw1 : IntKind.i64.wrap ((u : Int) - 1) = (t : Int) := by rw [IntWalk.i64_in _ (by omega)]; omega
      have hw2 : IntKind.i64.wrap ((q : Int) - (u : Int)) = (r : Int) := by rw [IntWalk.i64_in _ (by omega)]; omega
      have HB : Hid (Below w.heap.size w wr.drew) := hF.below.drew
      clear hW hF hnx h0 hcE hqE huE hr ht hT hts hc2 hfz hc3 hle hc
      go_wp2_with fail
      go_region
      all_goals go_wp2_with fail
      all_goals go_ret2
      all_goals exact ⟨t, r, HT.out, rfl, HB.out⟩

set_option maxHeartbeats 1000000 in
theorem common_any (a b : Nat) (w : World) (ha : a ≤ 9223372036854775807) (hb : b ≤ 9223372036854775807) :
    Calls Try.prog 62 #[.int .i64 a, .int .i64 b] w fun e w' => e = .returned (.int .i64 (Nat.gcd a b : Nat)) ∧ Below w.heap.size w w' := by
  go_enter Try.func62, Try.ntmps62
  go_wp2
  go_loopw [0, 1] (fun x y wr => ∃ p q : Nat, x = .int .i64 p ∧ y = .int .i64 q ∧ p ≤ 9223372036854775807 ∧ q ≤ 9223372036854775807 ∧ Nat.gcd p q = Nat.gcd a b ∧ Below w.heap.size w wr) (fun _ y _ => (intOf y).toNat)
  case atStart => exact ⟨a, b, rfl, rfl, ha, hb, rfl, Below.refl _ _⟩
  case round =>
    obtain ⟨p, q, rfl, rfl, hp, hq, hg, hB⟩ := hrel
    have HG : Hid (Nat.gcd p q = Nat.gcd a b) := hg
    have HB : Hid (Below w.heap.size w wr) := hB
    have HB2 : Hid (Below w.heap.size w wr.drew) := hB.drew
    clear hg hB
    by_cases h : 0 < q
    · have hm : p % q < q := Nat.mod_lt _ h
      have hq0 : ((q : Int) == 0) = false := by rw [beq_eq_false_iff_ne]; omega
      have hq1 : ((q : Int) != 0) = true := by rw [bne_iff_ne]; omega
      have hq2 : ¬ (q : Int) = 0 := by omega
      have htm : (p : Int).tmod q = ((p % q : Nat) : Int) := by rw [Int.tmod_eq_emod_of_nonneg (by omega)]; omega
      have hwm : IntKind.i64.wrap ((p % q : Nat) : Int) = ((p % q : Nat) : Int) := IntWalk.i64_in _ (by omega)
      obtain ⟨z, hzE⟩ : ∃ z, p % q = z := ⟨_, rfl⟩
      have HZE : Hid (p % q = z) := hzE
      rw [hzE] at htm hwm hm
      clear hzE
      go_wp2_with fail
      go_region
      all_goals go_wp2_with fail
      all_goals go_roundw
      all_goals first
        | exact ⟨q, z, rfl, rfl, hq, by omega, by rw [← HG.out, ← HZE.out, Nat.gcd_comm p q, Nat.gcd_rec q p, Nat.gcd_comm], HB2.out⟩
        | (simp [intOf]; omega)
    · have : q = 0 := by omega
      subst this
      go_wp2
      go_ret
      exact ⟨by have := HG.out; rw [Nat.gcd_zero_right] at this; rw [this]; rfl, HB.out⟩
end Go.Proofs.Ytihjhkbbpphocaa
