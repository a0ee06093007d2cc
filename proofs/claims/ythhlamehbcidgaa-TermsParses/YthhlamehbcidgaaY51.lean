/- The document's reader: power. -/
import Derived.Test.YthhlamehbcidgaaY50
import Derived.Test.YthhlamehbcidgaaY43
namespace Go.Proofs.Ythhlamehbcidgaa
open Go Go.RowKit Go.Lib
set_option linter.unusedVariables false

/-- What a reading call of the document leaves. -/
def PdQ (ok : Option (Nat × Sg)) (er : Option Nat) (s : ByteArray) (i rb : Nat) (w : World) (e : Ending) (w' : World) : Prop :=
  ∃ u M j bad, e = .returned u ∧ w'.ownsRow w.heap.size 81 2 u M.length (sgC M) ∧ DD w' rb s j bad ∧ OR rb w w' ∧ ((bad = false ∧ ok = some (j, M)) ∨ (bad = true ∧ ok = none ∧ er = some j ∧ M.length ≤ 2 * (s.size - i)))
def PdC (F rb : Nat) (s : ByteArray) (f : FuncId) (ok : Nat → Option (Nat × Sg)) (er : Nat → Option Nat) : Prop := ∀ (w : World) (i : Nat), DD w rb s i false → s.size < F + i → Calls Try.prog f #[.pointer (some ⟨rb, 0, none⟩)] w (PdQ (ok i) (er i) s i rb w)
/-- While omegas are read. -/
def OmI (s : ByteArray) (P : Nat → Sg → Option (Nat × Sg)) (B : Nat → Sg → Option Nat) (i p : Nat) (bad : Bool) (N : Sg) : Prop :=
  (bad = false ∧ i < p ∧ N.length + 2 * i + 1 ≤ 2 * p ∧ ∃ n, s.size < n + p ∧ powP s P i [] = omP s n (skip s p) N ∧ powE s P B i [] = omE s n (skip s p)) ∨
  (bad = true ∧ powP s P i [] = none ∧ powE s P B i [] = some p ∧ N.length ≤ 2 * (s.size - i))
theorem OmI.len {s : ByteArray} {P : Nat → Sg → Option (Nat × Sg)} {B : Nat → Sg → Option Nat} {i p : Nat} {bad : Bool} {N : Sg} (h : OmI s P B i p bad N) (hs : s.size ≤ 1000) (hp : p ≤ s.size) : N.length ≤ 2000 := by
  rcases h with ⟨_, h1, h2, _⟩ | ⟨_, _, _, h1⟩ <;> omega
theorem OmI.endBad {s : ByteArray} {P : Nat → Sg → Option (Nat × Sg)} {B : Nat → Sg → Option Nat} {i p : Nat} {N : Sg} (h : OmI s P B i p true N) : (true = false ∧ powP s P i [] = some (p, N)) ∨ (true = true ∧ powP s P i [] = none ∧ powE s P B i [] = some p ∧ N.length ≤ 2 * (s.size - i)) := by
  rcases h with ⟨h0, _⟩ | h
  · cases h0
  · exact .inr h
theorem OmI.go {s : ByteArray} {P : Nat → Sg → Option (Nat × Sg)} {B : Nat → Sg → Option Nat} {i p : Nat} {N : Sg} (h : OmI s P B i p false N) (h94 : nxB s p = 94) (hp : p ≤ s.size) : skip s p < s.size ∧ (isB s 119 (skip s p + 1) = true → OmI s P B i (skip s p + 2) false (N ++ [(4, 0)])) ∧ (¬ isB s 119 (skip s p + 1) = true → OmI s P B i (skip s p + 1) true (N ++ [(4, 0)])) := by
  have hsk := skip_le (s := s) _ p rfl hp
  obtain ⟨hl, -⟩ := nx_ne hp (by rw [h94]; decide)
  have hsee : seesB s ⟨#[94]⟩ (skip s p) = true := by rw [nx_94 hp, h94]; rfl
  rcases h with ⟨_, h1, h2, n, h3, h4, h5⟩ | ⟨h0, _⟩
  · obtain ⟨n, rfl⟩ : ∃ m, n = m + 1 := ⟨n - 1, by omega⟩
    rw [omP, if_pos hsee] at h4
    rw [omE, if_pos hsee] at h5
    refine ⟨hl, fun h => ?_, fun h => ?_⟩
    · rw [if_pos h] at h4 h5
      exact .inl ⟨rfl, by omega, by rw [List.length_append]; simp; omega, n, by omega, h4, h5⟩
    · rw [if_neg h] at h4 h5
      exact .inr ⟨rfl, h4, h5, by rw [List.length_append]; simp; omega⟩
  · cases h0
theorem OmI.stop {s : ByteArray} {P : Nat → Sg → Option (Nat × Sg)} {B : Nat → Sg → Option Nat} {i p : Nat} {N : Sg} (h : OmI s P B i p false N) (h94 : nxB s p ≠ 94) (hp : p ≤ s.size) : powP s P i [] = some (skip s p, N) := by
  have hsee : ¬ seesB s ⟨#[94]⟩ (skip s p) = true := by rw [nx_94 hp, beq_eq_false_iff_ne.2 h94]; simp
  rcases h with ⟨_, h1, h2, n, h3, h4, h5⟩ | ⟨h0, _⟩
  · obtain ⟨n, rfl⟩ : ∃ m, n = m + 1 := ⟨n - 1, by omega⟩
    rw [omP, if_neg hsee] at h4
    exact h4
  · cases h0
theorem OmI.start {s : ByteArray} {P : Nat → Sg → Option (Nat × Sg)} {B : Nat → Sg → Option Nat} {i j : Nat} {M : Sg} (h : atomP s P i [] = some (j, M)) (h1 : i < j) (h2 : M.length + 2 * i + 1 ≤ 2 * j) : OmI s P B i j false M := by
  refine .inl ⟨rfl, h1, h2, s.size + 1, by omega, ?_, ?_⟩
  · unfold powP; rw [h]
  · unfold powE; rw [h]
theorem OmI.bad {s : ByteArray} {P : Nat → Sg → Option (Nat × Sg)} {B : Nat → Sg → Option Nat} {i j : Nat} {M : Sg} (h : atomP s P i [] = none) (h1 : atomE s P B i [] = some j) (h2 : M.length ≤ 2 * (s.size - i)) : OmI s P B i j true M := by
  refine .inr ⟨rfl, ?_, ?_, h2⟩
  · unfold powP; rw [h]
  · unfold powE; rw [h]; exact h1
theorem app_only {w w4 w7 : World} {rb : Nat} {o : Obj} {v : Value} (h : OR rb w w4) (hg : (w4.alloc o).grownBy w7 v.ownBlock) (hv : ∀ b, v.ownBlock = some b → w.heap.size ≤ b) : OR rb w w7 := by
  have h1 : OR rb w (w4.alloc o) := h.trans (Only.of (below_new _ _))
  refine ⟨h1.zero.grown hg (by omega) (fun _ _ => Nat.zero_le _), fun j hj hs => ?_⟩
  rw [hg.block j (Nat.lt_of_lt_of_le hj h1.size) (fun e => by have := hv j e.symm; omega)]
  exact h1.block j hj hs

set_option maxHeartbeats 16000000 in
set_option maxRecDepth 100000 in
theorem rpower_ok {F rb : Nat} {s : ByteArray} (hs : s.size ≤ 1000) {P : Nat → Sg → Option (Nat × Sg)} {B : Nat → Sg → Option Nat} (hp : ∀ i L j M, i ≤ s.size → P i L = some (j, M) → PG s i L j M) (hj : ∀ i j M, P i [] = some (j, M) → skip s j = j) (hc : PdC F rb s 30 (fun i => P i []) (fun i => B i [])) : PdC (F + 1) rb s 58 (fun i => powP s P i []) (fun i => powE s P B i []) := by
  intro w i h hf
  have HF : Hid (s.size < F + 1 + i) := hf
  have HS : Hid (s.size ≤ 1000) := hs
  have HSD : Hid (PdC F rb s 30 (fun i => P i []) (fun i => B i [])) := hc
  have HPG : Hid (∀ i L j M, i ≤ s.size → P i L = some (j, M) → PG s i L j M) := hp
  have HSJ : Hid (∀ i j M, P i [] = some (j, M) → skip s j = j) := hj
  have HRB : Hid (rb < w.heap.size) := h.lt
  have hile := h.le
  obtain ⟨i0, hi0, hz0, hz1, hz2⟩ := info_parts Try.info_sign
  have hsk := skip_le (s := s) _ i rfl hile
  have hcs := atom_cases (P := P) (B := B) hile
  obtain ⟨q0, hq0⟩ : ∃ q, skip s i = q := ⟨_, rfl⟩
  obtain ⟨c0, hc0⟩ : ∃ c, nxB s i = c := ⟨_, rfl⟩
  have hlt := nxB_lt s i
  have HNX0 : Hid (Calls Try.prog 31 #[.pointer (some ⟨rb, 0, none⟩)] w fun e w' => e = .returned (.int .u8 (c0 : Nat)) ∧ DD w' rb s q0 false ∧ OR rb w w') := by
    have := rnext_any h hs
    rw [hc0, hq0] at this
    exact this
  rw [hq0] at hsk
  rw [hq0, hc0] at hcs
  rw [hc0] at hlt
  have HBG : Hid (∀ y, Calls Try.prog 59 #[.int .u8 (c0 : Nat)] y fun e w' => e = .returned (.bool (bgB c0)) ∧ y = w') := fun y => rbegins_any c0 hlt y
  have HSK : Hid (i ≤ q0 ∧ q0 ≤ s.size) := hsk
  have hw1 : IntKind.i64.wrap ((q0 : Int) + 1) = ((q0 + 1 : Nat) : Int) := by rw [IntKind.wrap_i64]; omega
  clear h hc hp hj hq0 hc0 hf
  rcases hcs with ⟨hb, ha, he⟩ | ⟨hb, hq0l, hn9, hn4, hn2, ha⟩ | ⟨hb, hq0l, h9, ha⟩ | ⟨hb, hq0l, h4, ha, he⟩
  · have HA : Hid (powP s P i [] = none ∧ powE s P B i [] = some q0) := by
      refine ⟨?_, ?_⟩
      · unfold powP; rw [ha]
      · unfold powE; rw [ha]; exact he
    rw [hb] at HBG
    clear ha he hb
    go_enter Try.func58, Try.ntmps58
    go_wp2_with fail
    refine Calls.mono HNX0.out ?_
    rintro e w2 ⟨rfl, hd2, ho2⟩
    have HD2 : Hid (DD w2 rb s q0 false) := hd2
    have HOR2 : Hid (OR rb w w2) := ho2
    have tf : ∀ j, w2.frozen? ⟨rb, j, none⟩ = false := fun j => froz_of hd2.box
    have t1 : w2.cell? ⟨rb, 1, none⟩ = some (.int .i64 (q0 : Nat)) := cell_at hd2.box rfl
    have t2 : w2.cell? ⟨rb, 2, none⟩ = some (.bool false) := cell_at hd2.box rfl
    clear hd2 ho2
    go_wp2_with (go_at_call 59; refine (HBG.out _).mono ?_; rintro e w1 ⟨rfl, rfl⟩)
    go_ret
    exact ⟨_, [], q0, true, rfl, World.ownsRow_nil _ _ _ _, HD2.out.spoilt, HOR2.out.trans or_set, .inr ⟨rfl, HA.out.1, HA.out.2, Nat.zero_le _⟩⟩
  · have HA : Hid (OmI s P B i (q0 + 1) false [(2, c0)]) := OmI.start ha (by omega) (by simp; omega)
    rw [hb] at HBG
    have h9I : ¬ (c0 : Int) = 49 := by omega
    have h9b : ((c0 : Int) == 49) = false := beq_eq_false_iff_ne.2 h9I
    have h4I : ¬ (c0 : Int) = 40 := by omega
    have h4b : ((c0 : Int) == 40) = false := beq_eq_false_iff_ne.2 h4I
    have HQL : Hid (q0 < s.size) := hq0l
    clear ha hb hn9 hn4
    go_enter Try.func58, Try.ntmps58
    go_wp2_with fail
    refine Calls.mono HNX0.out ?_
    rintro e w2 ⟨rfl, hd2, ho2⟩
    have HD2 : Hid (DD w2 rb s q0 false) := hd2
    have HOR2 : Hid (OR rb w w2) := ho2
    have tf : ∀ j, w2.frozen? ⟨rb, j, none⟩ = false := fun j => froz_of hd2.box
    have t1 : w2.cell? ⟨rb, 1, none⟩ = some (.int .i64 (q0 : Nat)) := cell_at hd2.box rfl
    have t2 : w2.cell? ⟨rb, 2, none⟩ = some (.bool false) := cell_at hd2.box rfl
    clear hd2 ho2
    obtain ⟨w3, hw3⟩ : ∃ w3, w3 = w2.setCell ⟨rb, 1, none⟩ (.int .i64 ((q0 + 1 : Nat) : Int)) := ⟨_, rfl⟩
    have HW3 : Hid (w3 = w2.setCell ⟨rb, 1, none⟩ (.int .i64 ((q0 : Int) + 1))) := hw3
    have HD3 : Hid (DD w3 rb s (q0 + 1) false) := by show DD _ _ _ _ _; rw [hw3]; exact HD2.out.move hq0l
    have HOR3 : Hid (OR rb w w3) := by show Only _ _ _; rw [hw3]; exact HOR2.out.trans or_set
    clear hw3
    go_upto_region 6 with (go_at_call 59; refine (HBG.out _).mono ?_; rintro e w1 ⟨rfl, rfl⟩)
    rw [← HW3.out]
    have HST : Hid ((w3.alloc (.cells #[.int .i64 2, .int .u8 (c0 : Nat)] 81)).ownsRow w.heap.size 81 2 (.slice (some ⟨w3.heap.size, 0, none⟩) 1 1) [(2, c0)].length (sgC [(2, c0)]) ∧ DD (w3.alloc (.cells #[.int .i64 2, .int .u8 (c0 : Nat)] 81)) rb s (q0 + 1) false ∧ OR rb w (w3.alloc (.cells #[.int .i64 2, .int .u8 (c0 : Nat)] 81)) ∧ OmI s P B i (q0 + 1) false [(2, c0)]) := ⟨World.ownsRow_lit w3 #[.int .i64 2, .int .u8 (c0 : Nat)] 1 HOR3.out.size (by decide) rfl, HD3.out.below (below_new _ _), HOR3.out.trans (Only.of (below_new _ _)), HA.out⟩
    clear t1 t2 tf
    go_wp2_with fail
    go_loopw [4] (fun vo wr => ∃ (p : Nat) (bad : Bool) (N : Sg), wr.ownsRow w.heap.size 81 2 vo N.length (sgC N) ∧ DD wr rb s p bad ∧ OR rb w wr ∧ OmI s P B i p bad N) (fun _ wr => s.size + 1 - (match wr.cell? ⟨rb, 1, none⟩ with | some (.int _ x) => x.toNat | _ => 0))
    case atStart => exact ⟨_, _, _, HST.out.1, HST.out.2.1, HST.out.2.2.1, HST.out.2.2.2⟩
    case round =>
      obtain ⟨p, bad, N, ho, hd, hor, hom⟩ := hrel
      obtain ⟨va, vc, rfl⟩ := own_shape ho
      have HO : Hid (wr.ownsRow w.heap.size 81 2 (.slice va N.length vc) N.length (sgC N)) := ho
      have HD : Hid (DD wr rb s p bad) := hd
      have HOR : Hid (OR rb w wr) := hor
      have HOM : Hid (OmI s P B i p bad N) := hom
      have hnl : N.length ≤ 2000 := hom.len HS.out hd.le
      have t2 : wr.cell? ⟨rb, 2, none⟩ = some (.bool bad) := cell_at hd.box rfl
      have T1 : Hid (wr.cell? ⟨rb, 1, none⟩ = some (.int .i64 (p : Nat))) := cell_at hd.box rfl
      have hple := hd.le
      clear ho hd hor hom
      cases bad with
      | true =>
        go_wp2_with fail
        go_ret
        exact ⟨_, N, p, true, rfl, HO.out, HD.out, HOR.out, HOM.out.endBad⟩
      | false =>
        have HNX : Hid (Calls Try.prog 31 #[.pointer (some ⟨rb, 0, none⟩)] wr fun e w' => e = .returned (.int .u8 (nxB s p : Nat)) ∧ DD w' rb s (skip s p) false ∧ OR rb wr w') := rnext_any HD.out HS.out
        have hsk := skip_le (s := s) _ p rfl hple
        obtain ⟨q, hq⟩ : ∃ q, skip s p = q := ⟨_, rfl⟩
        obtain ⟨c, hc⟩ : ∃ c, nxB s p = c := ⟨_, rfl⟩
        have HQC : Hid (skip s p = q ∧ nxB s p = c) := ⟨hq, hc⟩
        rw [hq, hc] at HNX
        rw [hq] at hsk
        clear hq hc
        by_cases h94 : c = 94
        · subst h94
          have h1 := HOM.out.go HQC.out.2 hple
          rw [HQC.out.1] at h1
          have HGO : Hid (q < s.size ∧ (isB s 119 (q + 1) = true → OmI s P B i (q + 2) false (N ++ [(4, 0)])) ∧ (¬ isB s 119 (q + 1) = true → OmI s P B i (q + 1) true (N ++ [(4, 0)]))) := h1
          have hql := h1.1
          clear h1
          go_wp2_with fail
          refine Calls.mono HNX.out ?_
          rintro e w2 ⟨rfl, hd2, ho2⟩
          have HD2 : Hid (DD w2 rb s q false) := hd2
          have HOR2 : Hid (OR rb w w2) := HOR.out.trans ho2
          have t1 : w2.cell? ⟨rb, 1, none⟩ = some (.int .i64 (q : Nat)) := cell_at hd2.box rfl
          have tf : ∀ j, w2.frozen? ⟨rb, j, none⟩ = false := fun j => froz_of hd2.box
          have hw1 : IntKind.i64.wrap ((q : Int) + 1) = ((q + 1 : Nat) : Int) := by have := HS.out; rw [IntKind.wrap_i64]; omega
          obtain ⟨w3, hw3⟩ : ∃ w3, w3 = w2.setCell ⟨rb, 1, none⟩ (.int .i64 ((q + 1 : Nat) : Int)) := ⟨_, rfl⟩
          have HW3 : Hid (w3 = w2.setCell ⟨rb, 1, none⟩ (.int .i64 ((q : Int) + 1))) := hw3
          have HD3 : Hid (DD w3 rb s (q + 1) false) := by show DD _ _ _ _ _; rw [hw3]; exact HD2.out.move hql
          have HOR3 : Hid (OR rb w w3) := by show Only _ _ _; rw [hw3]; exact HOR2.out.trans or_set
          have HO3 : Hid (w3.ownsRow w.heap.size 81 2 (.slice va N.length vc) N.length (sgC N)) := own_only (own_only HO.out ho2 (fun b hb e => by have := (own_blk HO.out hb).1; have := HRB.out; omega)) (by rw [hw3]; exact or_set) (fun b hb e => by have := (own_blk HO.out hb).1; have := HRB.out; omega)
          have HTK : Hid (Calls Try.prog 32 #[.pointer (some ⟨rb, 0, none⟩), .int .u8 119] w3 fun e w' => e = .returned (.tuple #[]) ∧ TkD w3 rb s (q + 1) 119 w') := rtake_any HD3.out HS.out 119
          clear hd2 ho2 hw3 t2
          go_upto_region 18 with fail
          rw [← HW3.out]
          go_wp2_with fail
          refine Calls.mono HTK.out ?_
          rintro e w4 ⟨rfl, htk⟩
          unfold TkD at htk
          have HOR4 : Hid (OR rb w w4) := HOR3.out.trans htk.2
          have HO4 : Hid (w4.ownsRow w.heap.size 81 2 (.slice va N.length vc) N.length (sgC N)) := own_only HO3.out htk.2 (fun b hb e => by have := (own_blk HO.out hb).1; have := HRB.out; omega)
          obtain ⟨p4, hp4⟩ : ∃ p4, (if isB s 119 (q + 1) = true then q + 1 + 1 else q + 1) = p4 := ⟨_, rfl⟩
          obtain ⟨b4, hb4⟩ : ∃ b4, (if isB s 119 (q + 1) = true then false else true) = b4 := ⟨_, rfl⟩
          rw [hp4, hb4] at htk
          have HD4 : Hid (DD w4 rb s p4 b4) := htk.1
          have HPP : Hid (p < p4) := by show _ < _; rw [← hp4]; split <;> omega
          have HOM4 : Hid (OmI s P B i p4 b4 (N ++ [(4, 0)])) := by
            show OmI _ _ _ _ _ _ _
            rw [← hp4, ← hb4]
            by_cases hz : isB s 119 (q + 1) = true
            · rw [if_pos hz, if_pos hz]; exact HGO.out.2.1 hz
            · rw [if_neg hz, if_neg hz]; exact HGO.out.2.2 hz
          clear htk hp4 hb4 t1 tf
          go_wp2_with (at_builtin; refine wpList_append_lies _ rfl _ _ 22 rfl w.heap.size 81 i0 (.agg #[.int .i64 0, .int .u8 0]) 2 16 Try.underlying22 hi0 hz0 hz1 hz2 rfl (by decide) _ _ _ rfl (HO4.out.alloc _) ⟨w4.heap.size, 0, none⟩ 1 1 [.int .i64 4, .int .u8 0] rfl rfl (World.news_of_block (heap_last w4 _)) (by intro u hu; simp at hu; rcases hu with rfl | rfl <;> rfl) (by decide) (by unfold maxLen; omega) (by omega) (by have := HOR4.out.size; simp; omega) (w4.alloc (.cells #[.int .i64 4, .int .u8 0] 81)).heap.size rfl ?_; intro g7 c7 w7 ho7 hg7 hl7 _; have HO7 : Hid (w7.ownsRow w.heap.size 81 2 (.slice (some ⟨g7, 0, none⟩) (N.length + 1) c7) (N ++ [(4, 0)]).length (sgC (N ++ [(4, 0)]))) := (by show World.ownsRow _ _ _ _ _ _ _; rw [sgC_snoc, List.length_append]; exact ho7); have hrb7 : w7.heap[rb]? = (w4.alloc (.cells #[.int .i64 4, .int .u8 0] 81)).heap[rb]? := hg7.block rb (by have h1 := HD4.out.lt; rw [World.size_alloc]; exact Nat.lt_succ_of_lt h1) (fun e => by have h1 := (HO4.out.lt rb e.symm).1; have h2 := HRB.out; omega); have HD7 : Hid (DD w7 rb s p4 b4) := ⟨(hrb7.trans (heap_allo HD4.out.lt _)).trans HD4.out.box, HD4.out.le⟩; have HOR7 : Hid (OR rb w w7) := app_only HOR4.out hg7 (fun b hb => (HO4.out.lt b hb).1); clear ho7 hg7 hl7 hrb7)
          go_roundw
          case rel => exact ⟨p4, b4, N ++ [(4, 0)], HO7.out, HD7.out, HOR7.out, HOM4.out⟩
          case measure =>
            have m1 : w7.cell? ⟨rb, 1, none⟩ = some (.int .i64 (p4 : Nat)) := cell_at HD7.out.box rfl
            have m0 := T1.out
            have e1 : ((p4 : Nat) : Int).toNat = p4 := by omega
            have e0 : ((p : Nat) : Int).toNat = p := by omega
            simp only [m0, m1, e0, e1]
            have := HPP.out
            omega
        · have hcI : ¬ (c : Int) = 94 := by omega
          have hcb : ((c : Int) == 94) = false := beq_eq_false_iff_ne.2 hcI
          have hcd : decide ((c : Int) = 94) = false := decide_eq_false hcI
          have HEN : Hid (powP s P i [] = some (q, N)) := by
            have h1 := HOM.out.stop (by rw [HQC.out.2]; exact h94) hple
            rw [HQC.out.1] at h1
            exact h1
          clear h94
          go_wp2_with fail
          refine Calls.mono HNX.out ?_
          rintro e w2 ⟨rfl, hd2, ho2⟩
          have HD2 : Hid (DD w2 rb s q false) := hd2
          have HOR2 : Hid (OR rb w w2) := HOR.out.trans ho2
          have HO3 : Hid (w2.ownsRow w.heap.size 81 2 (.slice va N.length vc) N.length (sgC N)) := own_only HO.out ho2 (fun b hb e => by have := (own_blk HO.out hb).1; have := HRB.out; omega)
          clear hd2 ho2 t2
          go_wp2_with fail
          go_ret
          exact ⟨_, N, q, false, rfl, HO3.out, HD2.out, HOR2.out, .inl ⟨rfl, HEN.out⟩⟩
  · subst h9
    have HA : Hid (OmI s P B i (q0 + 1) false [(1, 0)]) := OmI.start ha (by omega) (by simp; omega)
    rw [hb] at HBG
    have HQL : Hid (q0 < s.size) := hq0l
    clear ha hb
    go_enter Try.func58, Try.ntmps58
    go_wp2_with fail
    refine Calls.mono HNX0.out ?_
    rintro e w2 ⟨rfl, hd2, ho2⟩
    have HD2 : Hid (DD w2 rb s q0 false) := hd2
    have HOR2 : Hid (OR rb w w2) := ho2
    have tf : ∀ j, w2.frozen? ⟨rb, j, none⟩ = false := fun j => froz_of hd2.box
    have t1 : w2.cell? ⟨rb, 1, none⟩ = some (.int .i64 (q0 : Nat)) := cell_at hd2.box rfl
    have t2 : w2.cell? ⟨rb, 2, none⟩ = some (.bool false) := cell_at hd2.box rfl
    clear hd2 ho2
    obtain ⟨w3, hw3⟩ : ∃ w3, w3 = w2.setCell ⟨rb, 1, none⟩ (.int .i64 ((q0 + 1 : Nat) : Int)) := ⟨_, rfl⟩
    have HW3 : Hid (w3 = w2.setCell ⟨rb, 1, none⟩ (.int .i64 ((q0 : Int) + 1))) := hw3
    have HD3 : Hid (DD w3 rb s (q0 + 1) false) := by show DD _ _ _ _ _; rw [hw3]; exact HD2.out.move hq0l
    have HOR3 : Hid (OR rb w w3) := by show Only _ _ _; rw [hw3]; exact HOR2.out.trans or_set
    clear hw3
    go_upto_region 6 with (go_at_call 59; refine (HBG.out _).mono ?_; rintro e w1 ⟨rfl, rfl⟩)
    rw [← HW3.out]
    have HST : Hid ((w3.alloc (.cells #[.int .i64 1, .int .u8 0] 81)).ownsRow w.heap.size 81 2 (.slice (some ⟨w3.heap.size, 0, none⟩) 1 1) [(1, 0)].length (sgC [(1, 0)]) ∧ DD (w3.alloc (.cells #[.int .i64 1, .int .u8 0] 81)) rb s (q0 + 1) false ∧ OR rb w (w3.alloc (.cells #[.int .i64 1, .int .u8 0] 81)) ∧ OmI s P B i (q0 + 1) false [(1, 0)]) := ⟨World.ownsRow_lit w3 #[.int .i64 1, .int .u8 0] 1 HOR3.out.size (by decide) rfl, HD3.out.below (below_new _ _), HOR3.out.trans (Only.of (below_new _ _)), HA.out⟩
    clear t1 t2 tf
    go_wp2_with fail
    go_loopw [4] (fun vo wr => ∃ (p : Nat) (bad : Bool) (N : Sg), wr.ownsRow w.heap.size 81 2 vo N.length (sgC N) ∧ DD wr rb s p bad ∧ OR rb w wr ∧ OmI s P B i p bad N) (fun _ wr => s.size + 1 - (match wr.cell? ⟨rb, 1, none⟩ with | some (.int _ x) => x.toNat | _ => 0))
    case atStart => exact ⟨_, _, _, HST.out.1, HST.out.2.1, HST.out.2.2.1, HST.out.2.2.2⟩
    case round =>
      obtain ⟨p, bad, N, ho, hd, hor, hom⟩ := hrel
      obtain ⟨va, vc, rfl⟩ := own_shape ho
      have HO : Hid (wr.ownsRow w.heap.size 81 2 (.slice va N.length vc) N.length (sgC N)) := ho
      have HD : Hid (DD wr rb s p bad) := hd
      have HOR : Hid (OR rb w wr) := hor
      have HOM : Hid (OmI s P B i p bad N) := hom
      have hnl : N.length ≤ 2000 := hom.len HS.out hd.le
      have t2 : wr.cell? ⟨rb, 2, none⟩ = some (.bool bad) := cell_at hd.box rfl
      have T1 : Hid (wr.cell? ⟨rb, 1, none⟩ = some (.int .i64 (p : Nat))) := cell_at hd.box rfl
      have hple := hd.le
      clear ho hd hor hom
      cases bad with
      | true =>
        go_wp2_with fail
        go_ret
        exact ⟨_, N, p, true, rfl, HO.out, HD.out, HOR.out, HOM.out.endBad⟩
      | false =>
        have HNX : Hid (Calls Try.prog 31 #[.pointer (some ⟨rb, 0, none⟩)] wr fun e w' => e = .returned (.int .u8 (nxB s p : Nat)) ∧ DD w' rb s (skip s p) false ∧ OR rb wr w') := rnext_any HD.out HS.out
        have hsk := skip_le (s := s) _ p rfl hple
        obtain ⟨q, hq⟩ : ∃ q, skip s p = q := ⟨_, rfl⟩
        obtain ⟨c, hc⟩ : ∃ c, nxB s p = c := ⟨_, rfl⟩
        have HQC : Hid (skip s p = q ∧ nxB s p = c) := ⟨hq, hc⟩
        rw [hq, hc] at HNX
        rw [hq] at hsk
        clear hq hc
        by_cases h94 : c = 94
        · subst h94
          have h1 := HOM.out.go HQC.out.2 hple
          rw [HQC.out.1] at h1
          have HGO : Hid (q < s.size ∧ (isB s 119 (q + 1) = true → OmI s P B i (q + 2) false (N ++ [(4, 0)])) ∧ (¬ isB s 119 (q + 1) = true → OmI s P B i (q + 1) true (N ++ [(4, 0)]))) := h1
          have hql := h1.1
          clear h1
          go_wp2_with fail
          refine Calls.mono HNX.out ?_
          rintro e w2 ⟨rfl, hd2, ho2⟩
          have HD2 : Hid (DD w2 rb s q false) := hd2
          have HOR2 : Hid (OR rb w w2) := HOR.out.trans ho2
          have t1 : w2.cell? ⟨rb, 1, none⟩ = some (.int .i64 (q : Nat)) := cell_at hd2.box rfl
          have tf : ∀ j, w2.frozen? ⟨rb, j, none⟩ = false := fun j => froz_of hd2.box
          have hw1 : IntKind.i64.wrap ((q : Int) + 1) = ((q + 1 : Nat) : Int) := by have := HS.out; rw [IntKind.wrap_i64]; omega
          obtain ⟨w3, hw3⟩ : ∃ w3, w3 = w2.setCell ⟨rb, 1, none⟩ (.int .i64 ((q + 1 : Nat) : Int)) := ⟨_, rfl⟩
          have HW3 : Hid (w3 = w2.setCell ⟨rb, 1, none⟩ (.int .i64 ((q : Int) + 1))) := hw3
          have HD3 : Hid (DD w3 rb s (q + 1) false) := by show DD _ _ _ _ _; rw [hw3]; exact HD2.out.move hql
          have HOR3 : Hid (OR rb w w3) := by show Only _ _ _; rw [hw3]; exact HOR2.out.trans or_set
          have HO3 : Hid (w3.ownsRow w.heap.size 81 2 (.slice va N.length vc) N.length (sgC N)) := own_only (own_only HO.out ho2 (fun b hb e => by have := (own_blk HO.out hb).1; have := HRB.out; omega)) (by rw [hw3]; exact or_set) (fun b hb e => by have := (own_blk HO.out hb).1; have := HRB.out; omega)
          have HTK : Hid (Calls Try.prog 32 #[.pointer (some ⟨rb, 0, none⟩), .int .u8 119] w3 fun e w' => e = .returned (.tuple #[]) ∧ TkD w3 rb s (q + 1) 119 w') := rtake_any HD3.out HS.out 119
          clear hd2 ho2 hw3 t2
          go_upto_region 18 with fail
          rw [← HW3.out]
          go_wp2_with fail
          refine Calls.mono HTK.out ?_
          rintro e w4 ⟨rfl, htk⟩
          unfold TkD at htk
          have HOR4 : Hid (OR rb w w4) := HOR3.out.trans htk.2
          have HO4 : Hid (w4.ownsRow w.heap.size 81 2 (.slice va N.length vc) N.length (sgC N)) := own_only HO3.out htk.2 (fun b hb e => by have := (own_blk HO.out hb).1; have := HRB.out; omega)
          obtain ⟨p4, hp4⟩ : ∃ p4, (if isB s 119 (q + 1) = true then q + 1 + 1 else q + 1) = p4 := ⟨_, rfl⟩
          obtain ⟨b4, hb4⟩ : ∃ b4, (if isB s 119 (q + 1) = true then false else true) = b4 := ⟨_, rfl⟩
          rw [hp4, hb4] at htk
          have HD4 : Hid (DD w4 rb s p4 b4) := htk.1
          have HPP : Hid (p < p4) := by show _ < _; rw [← hp4]; split <;> omega
          have HOM4 : Hid (OmI s P B i p4 b4 (N ++ [(4, 0)])) := by
            show OmI _ _ _ _ _ _ _
            rw [← hp4, ← hb4]
            by_cases hz : isB s 119 (q + 1) = true
            · rw [if_pos hz, if_pos hz]; exact HGO.out.2.1 hz
            · rw [if_neg hz, if_neg hz]; exact HGO.out.2.2 hz
          clear htk hp4 hb4 t1 tf
          go_wp2_with (at_builtin; refine wpList_append_lies _ rfl _ _ 22 rfl w.heap.size 81 i0 (.agg #[.int .i64 0, .int .u8 0]) 2 16 Try.underlying22 hi0 hz0 hz1 hz2 rfl (by decide) _ _ _ rfl (HO4.out.alloc _) ⟨w4.heap.size, 0, none⟩ 1 1 [.int .i64 4, .int .u8 0] rfl rfl (World.news_of_block (heap_last w4 _)) (by intro u hu; simp at hu; rcases hu with rfl | rfl <;> rfl) (by decide) (by unfold maxLen; omega) (by omega) (by have := HOR4.out.size; simp; omega) (w4.alloc (.cells #[.int .i64 4, .int .u8 0] 81)).heap.size rfl ?_; intro g7 c7 w7 ho7 hg7 hl7 _; have HO7 : Hid (w7.ownsRow w.heap.size 81 2 (.slice (some ⟨g7, 0, none⟩) (N.length + 1) c7) (N ++ [(4, 0)]).length (sgC (N ++ [(4, 0)]))) := (by show World.ownsRow _ _ _ _ _ _ _; rw [sgC_snoc, List.length_append]; exact ho7); have hrb7 : w7.heap[rb]? = (w4.alloc (.cells #[.int .i64 4, .int .u8 0] 81)).heap[rb]? := hg7.block rb (by have h1 := HD4.out.lt; rw [World.size_alloc]; exact Nat.lt_succ_of_lt h1) (fun e => by have h1 := (HO4.out.lt rb e.symm).1; have h2 := HRB.out; omega); have HD7 : Hid (DD w7 rb s p4 b4) := ⟨(hrb7.trans (heap_allo HD4.out.lt _)).trans HD4.out.box, HD4.out.le⟩; have HOR7 : Hid (OR rb w w7) := app_only HOR4.out hg7 (fun b hb => (HO4.out.lt b hb).1); clear ho7 hg7 hl7 hrb7)
          go_roundw
          case rel => exact ⟨p4, b4, N ++ [(4, 0)], HO7.out, HD7.out, HOR7.out, HOM4.out⟩
          case measure =>
            have m1 : w7.cell? ⟨rb, 1, none⟩ = some (.int .i64 (p4 : Nat)) := cell_at HD7.out.box rfl
            have m0 := T1.out
            have e1 : ((p4 : Nat) : Int).toNat = p4 := by omega
            have e0 : ((p : Nat) : Int).toNat = p := by omega
            simp only [m0, m1, e0, e1]
            have := HPP.out
            omega
        · have hcI : ¬ (c : Int) = 94 := by omega
          have hcb : ((c : Int) == 94) = false := beq_eq_false_iff_ne.2 hcI
          have hcd : decide ((c : Int) = 94) = false := decide_eq_false hcI
          have HEN : Hid (powP s P i [] = some (q, N)) := by
            have h1 := HOM.out.stop (by rw [HQC.out.2]; exact h94) hple
            rw [HQC.out.1] at h1
            exact h1
          clear h94
          go_wp2_with fail
          refine Calls.mono HNX.out ?_
          rintro e w2 ⟨rfl, hd2, ho2⟩
          have HD2 : Hid (DD w2 rb s q false) := hd2
          have HOR2 : Hid (OR rb w w2) := HOR.out.trans ho2
          have HO3 : Hid (w2.ownsRow w.heap.size 81 2 (.slice va N.length vc) N.length (sgC N)) := own_only HO.out ho2 (fun b hb e => by have := (own_blk HO.out hb).1; have := HRB.out; omega)
          clear hd2 ho2 t2
          go_wp2_with fail
          go_ret
          exact ⟨_, N, q, false, rfl, HO3.out, HD2.out, HOR2.out, .inl ⟨rfl, HEN.out⟩⟩
  · subst h4
    have HA : Hid (_ ∧ _) := ⟨ha, he⟩
    rw [hb] at HBG
    have HQL : Hid (q0 < s.size) := hq0l
    clear ha he hb
    go_enter Try.func58, Try.ntmps58
    go_wp2_with fail
    refine Calls.mono HNX0.out ?_
    rintro e w2 ⟨rfl, hd2, ho2⟩
    have HD2 : Hid (DD w2 rb s q0 false) := hd2
    have HOR2 : Hid (OR rb w w2) := ho2
    have tf : ∀ j, w2.frozen? ⟨rb, j, none⟩ = false := fun j => froz_of hd2.box
    have t1 : w2.cell? ⟨rb, 1, none⟩ = some (.int .i64 (q0 : Nat)) := cell_at hd2.box rfl
    have t2 : w2.cell? ⟨rb, 2, none⟩ = some (.bool false) := cell_at hd2.box rfl
    clear hd2 ho2
    obtain ⟨w3, hw3⟩ : ∃ w3, w3 = w2.setCell ⟨rb, 1, none⟩ (.int .i64 ((q0 + 1 : Nat) : Int)) := ⟨_, rfl⟩
    have HW3 : Hid (w3 = w2.setCell ⟨rb, 1, none⟩ (.int .i64 ((q0 : Int) + 1))) := hw3
    have HD3 : Hid (DD w3 rb s (q0 + 1) false) := by show DD _ _ _ _ _; rw [hw3]; exact HD2.out.move hq0l
    have HOR3 : Hid (OR rb w w3) := by show Only _ _ _; rw [hw3]; exact HOR2.out.trans or_set
    clear hw3
    go_upto_region 6 with (go_at_call 59; refine (HBG.out _).mono ?_; rintro e w1 ⟨rfl, rfl⟩)
    rw [← HW3.out]
    have HSC : Hid (Calls Try.prog 30 #[.pointer (some ⟨rb, 0, none⟩)] w3 (PdQ (P (q0 + 1) []) (B (q0 + 1) []) s (q0 + 1) rb w3)) := HSD.out w3 (q0 + 1) HD3.out (by have h1 := HSK.out; have h2 := HF.out; omega)
    clear t1 t2 tf
    go_wp2_with fail
    refine Calls.mono HSC.out ?_
    rintro e w4 ⟨u, M, j, bad, rfl, ho4, hd4, hor4, hpd⟩
    obtain ⟨va0, vc0, rfl⟩ := own_shape ho4
    have HO4 : Hid (w4.ownsRow w.heap.size 81 2 (.slice va0 M.length vc0) M.length (sgC M)) := own_mono ho4 HOR3.out.size
    have HD4 : Hid (DD w4 rb s j bad) := hd4
    have HOR4 : Hid (OR rb w w4) := HOR3.out.trans hor4
    have t2 : w4.cell? ⟨rb, 2, none⟩ = some (.bool bad) := cell_at hd4.box rfl
    clear ho4 hd4 hor4
    rcases hpd with ⟨rfl, hok⟩ | ⟨rfl, hok, her, hml⟩
    · have hpg := HPG.out _ _ _ _ (by have := HQL.out; omega) hok
      have HPJ : Hid (q0 + 1 < j ∧ j ≤ s.size ∧ M.length + 2 * (q0 + 1) + 1 ≤ 2 * j) := by
        obtain ⟨g1, g2, g3⟩ := hpg
        refine ⟨g1, g2, by simpa using g3⟩
      have HOK : Hid (P (q0 + 1) [] = some (j, M)) := hok
      have HBL : Hid (Calls Try.prog 60 #[.pointer (some ⟨rb, 0, none⟩)] w4 fun e w' => e = .returned (.tuple #[]) ∧ DD w' rb s j false ∧ OR rb w4 w') := by
        have := rblanks_any HD4.out HS.out
        rw [HSJ.out (q0 + 1) j M hok] at this
        exact this
      clear hpg hok
      go_wp2_with fail
      refine Calls.mono HBL.out ?_
      rintro e w5 ⟨rfl, hd5, hor5⟩
      have HD5 : Hid (DD w5 rb s j false) := hd5
      have HOR5 : Hid (OR rb w w5) := HOR4.out.trans hor5
      have HO5 : Hid (w5.ownsRow w.heap.size 81 2 (.slice va0 M.length vc0) M.length (sgC M)) := own_only HO4.out hor5 (fun b hb e => by have := (own_blk HO4.out hb).1; have := HRB.out; omega)
      have HTK0 : Hid (Calls Try.prog 32 #[.pointer (some ⟨rb, 0, none⟩), .int .u8 41] w5 fun e w' => e = .returned (.tuple #[]) ∧ TkD w5 rb s j 41 w') := rtake_any HD5.out HS.out 41
      clear hd5 hor5 t2
      go_wp2_with fail
      refine Calls.mono HTK0.out ?_
      rintro e w6 ⟨rfl, htk⟩
      unfold TkD at htk
      have HST : Hid (w6.ownsRow w.heap.size 81 2 (.slice va0 M.length vc0) M.length (sgC M) ∧ DD w6 rb s (if isB s 41 j = true then j + 1 else j) (if isB s 41 j = true then false else true) ∧ OR rb w w6 ∧ OmI s P B i (if isB s 41 j = true then j + 1 else j) (if isB s 41 j = true then false else true) M) := by
        refine ⟨own_only HO5.out htk.2 (fun b hb e => by have := (own_blk HO5.out hb).1; have := HRB.out; omega), htk.1, HOR5.out.trans htk.2, ?_⟩
        have hA := HA.out
        rw [HOK.out] at hA
        obtain ⟨g1, g2, g3⟩ := HPJ.out
        have g4 := HSK.out
        by_cases hz : isB s 41 j = true
        · rw [if_pos hz, if_pos hz]
          exact OmI.start (by rw [hA.1]; exact if_pos hz) (by omega) (by omega)
        · rw [if_neg hz, if_neg hz]
          exact OmI.bad (by rw [hA.1]; exact if_neg hz) (by rw [hA.2]; exact if_neg hz) (by omega)
      clear htk
      go_wp2_with fail
      go_loopw [4] (fun vo wr => ∃ (p : Nat) (bad : Bool) (N : Sg), wr.ownsRow w.heap.size 81 2 vo N.length (sgC N) ∧ DD wr rb s p bad ∧ OR rb w wr ∧ OmI s P B i p bad N) (fun _ wr => s.size + 1 - (match wr.cell? ⟨rb, 1, none⟩ with | some (.int _ x) => x.toNat | _ => 0))
      case atStart => exact ⟨_, _, _, HST.out.1, HST.out.2.1, HST.out.2.2.1, HST.out.2.2.2⟩
      case round =>
        obtain ⟨p, bad, N, ho, hd, hor, hom⟩ := hrel
        obtain ⟨va, vc, rfl⟩ := own_shape ho
        have HO : Hid (wr.ownsRow w.heap.size 81 2 (.slice va N.length vc) N.length (sgC N)) := ho
        have HD : Hid (DD wr rb s p bad) := hd
        have HOR : Hid (OR rb w wr) := hor
        have HOM : Hid (OmI s P B i p bad N) := hom
        have hnl : N.length ≤ 2000 := hom.len HS.out hd.le
        have t2 : wr.cell? ⟨rb, 2, none⟩ = some (.bool bad) := cell_at hd.box rfl
        have T1 : Hid (wr.cell? ⟨rb, 1, none⟩ = some (.int .i64 (p : Nat))) := cell_at hd.box rfl
        have hple := hd.le
        clear ho hd hor hom
        cases bad with
        | true =>
          go_wp2_with fail
          go_ret
          exact ⟨_, N, p, true, rfl, HO.out, HD.out, HOR.out, HOM.out.endBad⟩
        | false =>
          have HNX : Hid (Calls Try.prog 31 #[.pointer (some ⟨rb, 0, none⟩)] wr fun e w' => e = .returned (.int .u8 (nxB s p : Nat)) ∧ DD w' rb s (skip s p) false ∧ OR rb wr w') := rnext_any HD.out HS.out
          have hsk := skip_le (s := s) _ p rfl hple
          obtain ⟨q, hq⟩ : ∃ q, skip s p = q := ⟨_, rfl⟩
          obtain ⟨c, hc⟩ : ∃ c, nxB s p = c := ⟨_, rfl⟩
          have HQC : Hid (skip s p = q ∧ nxB s p = c) := ⟨hq, hc⟩
          rw [hq, hc] at HNX
          rw [hq] at hsk
          clear hq hc
          by_cases h94 : c = 94
          · subst h94
            have h1 := HOM.out.go HQC.out.2 hple
            rw [HQC.out.1] at h1
            have HGO : Hid (q < s.size ∧ (isB s 119 (q + 1) = true → OmI s P B i (q + 2) false (N ++ [(4, 0)])) ∧ (¬ isB s 119 (q + 1) = true → OmI s P B i (q + 1) true (N ++ [(4, 0)]))) := h1
            have hql := h1.1
            clear h1
            go_wp2_with fail
            refine Calls.mono HNX.out ?_
            rintro e w2 ⟨rfl, hd2, ho2⟩
            have HD2 : Hid (DD w2 rb s q false) := hd2
            have HOR2 : Hid (OR rb w w2) := HOR.out.trans ho2
            have t1 : w2.cell? ⟨rb, 1, none⟩ = some (.int .i64 (q : Nat)) := cell_at hd2.box rfl
            have tf : ∀ j, w2.frozen? ⟨rb, j, none⟩ = false := fun j => froz_of hd2.box
            have hw1 : IntKind.i64.wrap ((q : Int) + 1) = ((q + 1 : Nat) : Int) := by have := HS.out; rw [IntKind.wrap_i64]; omega
            obtain ⟨w3, hw3⟩ : ∃ w3, w3 = w2.setCell ⟨rb, 1, none⟩ (.int .i64 ((q + 1 : Nat) : Int)) := ⟨_, rfl⟩
            have HW3 : Hid (w3 = w2.setCell ⟨rb, 1, none⟩ (.int .i64 ((q : Int) + 1))) := hw3
            have HD3 : Hid (DD w3 rb s (q + 1) false) := by show DD _ _ _ _ _; rw [hw3]; exact HD2.out.move hql
            have HOR3 : Hid (OR rb w w3) := by show Only _ _ _; rw [hw3]; exact HOR2.out.trans or_set
            have HO3 : Hid (w3.ownsRow w.heap.size 81 2 (.slice va N.length vc) N.length (sgC N)) := own_only (own_only HO.out ho2 (fun b hb e => by have := (own_blk HO.out hb).1; have := HRB.out; omega)) (by rw [hw3]; exact or_set) (fun b hb e => by have := (own_blk HO.out hb).1; have := HRB.out; omega)
            have HTK : Hid (Calls Try.prog 32 #[.pointer (some ⟨rb, 0, none⟩), .int .u8 119] w3 fun e w' => e = .returned (.tuple #[]) ∧ TkD w3 rb s (q + 1) 119 w') := rtake_any HD3.out HS.out 119
            clear hd2 ho2 hw3 t2
            go_upto_region 18 with fail
            rw [← HW3.out]
            go_wp2_with fail
            refine Calls.mono HTK.out ?_
            rintro e w4 ⟨rfl, htk⟩
            unfold TkD at htk
            have HOR4 : Hid (OR rb w w4) := HOR3.out.trans htk.2
            have HO4 : Hid (w4.ownsRow w.heap.size 81 2 (.slice va N.length vc) N.length (sgC N)) := own_only HO3.out htk.2 (fun b hb e => by have := (own_blk HO.out hb).1; have := HRB.out; omega)
            obtain ⟨p4, hp4⟩ : ∃ p4, (if isB s 119 (q + 1) = true then q + 1 + 1 else q + 1) = p4 := ⟨_, rfl⟩
            obtain ⟨b4, hb4⟩ : ∃ b4, (if isB s 119 (q + 1) = true then false else true) = b4 := ⟨_, rfl⟩
            rw [hp4, hb4] at htk
            have HD4 : Hid (DD w4 rb s p4 b4) := htk.1
            have HPP : Hid (p < p4) := by show _ < _; rw [← hp4]; split <;> omega
            have HOM4 : Hid (OmI s P B i p4 b4 (N ++ [(4, 0)])) := by
              show OmI _ _ _ _ _ _ _
              rw [← hp4, ← hb4]
              by_cases hz : isB s 119 (q + 1) = true
              · rw [if_pos hz, if_pos hz]; exact HGO.out.2.1 hz
              · rw [if_neg hz, if_neg hz]; exact HGO.out.2.2 hz
            clear htk hp4 hb4 t1 tf
            go_wp2_with (at_builtin; refine wpList_append_lies _ rfl _ _ 22 rfl w.heap.size 81 i0 (.agg #[.int .i64 0, .int .u8 0]) 2 16 Try.underlying22 hi0 hz0 hz1 hz2 rfl (by decide) _ _ _ rfl (HO4.out.alloc _) ⟨w4.heap.size, 0, none⟩ 1 1 [.int .i64 4, .int .u8 0] rfl rfl (World.news_of_block (heap_last w4 _)) (by intro u hu; simp at hu; rcases hu with rfl | rfl <;> rfl) (by decide) (by unfold maxLen; omega) (by omega) (by have := HOR4.out.size; simp; omega) (w4.alloc (.cells #[.int .i64 4, .int .u8 0] 81)).heap.size rfl ?_; intro g7 c7 w7 ho7 hg7 hl7 _; have HO7 : Hid (w7.ownsRow w.heap.size 81 2 (.slice (some ⟨g7, 0, none⟩) (N.length + 1) c7) (N ++ [(4, 0)]).length (sgC (N ++ [(4, 0)]))) := (by show World.ownsRow _ _ _ _ _ _ _; rw [sgC_snoc, List.length_append]; exact ho7); have hrb7 : w7.heap[rb]? = (w4.alloc (.cells #[.int .i64 4, .int .u8 0] 81)).heap[rb]? := hg7.block rb (by have h1 := HD4.out.lt; rw [World.size_alloc]; exact Nat.lt_succ_of_lt h1) (fun e => by have h1 := (HO4.out.lt rb e.symm).1; have h2 := HRB.out; omega); have HD7 : Hid (DD w7 rb s p4 b4) := ⟨(hrb7.trans (heap_allo HD4.out.lt _)).trans HD4.out.box, HD4.out.le⟩; have HOR7 : Hid (OR rb w w7) := app_only HOR4.out hg7 (fun b hb => (HO4.out.lt b hb).1); clear ho7 hg7 hl7 hrb7)
            go_roundw
            case rel => exact ⟨p4, b4, N ++ [(4, 0)], HO7.out, HD7.out, HOR7.out, HOM4.out⟩
            case measure =>
              have m1 : w7.cell? ⟨rb, 1, none⟩ = some (.int .i64 (p4 : Nat)) := cell_at HD7.out.box rfl
              have m0 := T1.out
              have e1 : ((p4 : Nat) : Int).toNat = p4 := by omega
              have e0 : ((p : Nat) : Int).toNat = p := by omega
              simp only [m0, m1, e0, e1]
              have := HPP.out
              omega
          · have hcI : ¬ (c : Int) = 94 := by omega
            have hcb : ((c : Int) == 94) = false := beq_eq_false_iff_ne.2 hcI
            have hcd : decide ((c : Int) = 94) = false := decide_eq_false hcI
            have HEN : Hid (powP s P i [] = some (q, N)) := by
              have h1 := HOM.out.stop (by rw [HQC.out.2]; exact h94) hple
              rw [HQC.out.1] at h1
              exact h1
            clear h94
            go_wp2_with fail
            refine Calls.mono HNX.out ?_
            rintro e w2 ⟨rfl, hd2, ho2⟩
            have HD2 : Hid (DD w2 rb s q false) := hd2
            have HOR2 : Hid (OR rb w w2) := HOR.out.trans ho2
            have HO3 : Hid (w2.ownsRow w.heap.size 81 2 (.slice va N.length vc) N.length (sgC N)) := own_only HO.out ho2 (fun b hb e => by have := (own_blk HO.out hb).1; have := HRB.out; omega)
            clear hd2 ho2 t2
            go_wp2_with fail
            go_ret
            exact ⟨_, N, q, false, rfl, HO3.out, HD2.out, HOR2.out, .inl ⟨rfl, HEN.out⟩⟩
    · have HST : Hid (w4.ownsRow w.heap.size 81 2 (.slice va0 M.length vc0) M.length (sgC M) ∧ DD w4 rb s j true ∧ OR rb w w4 ∧ OmI s P B i j true M) := by
        refine ⟨HO4.out, HD4.out, HOR4.out, ?_⟩
        have hA := HA.out
        rw [hok] at hA
        have g4 := HSK.out
        exact OmI.bad hA.1 (hA.2.trans her) (by omega)
      clear hok her hml
      go_wp2_with fail
      go_loopw [4] (fun vo wr => ∃ (p : Nat) (bad : Bool) (N : Sg), wr.ownsRow w.heap.size 81 2 vo N.length (sgC N) ∧ DD wr rb s p bad ∧ OR rb w wr ∧ OmI s P B i p bad N) (fun _ wr => s.size + 1 - (match wr.cell? ⟨rb, 1, none⟩ with | some (.int _ x) => x.toNat | _ => 0))
      case atStart => exact ⟨_, _, _, HST.out.1, HST.out.2.1, HST.out.2.2.1, HST.out.2.2.2⟩
      case round =>
        obtain ⟨p, bad, N, ho, hd, hor, hom⟩ := hrel
        obtain ⟨va, vc, rfl⟩ := own_shape ho
        have HO : Hid (wr.ownsRow w.heap.size 81 2 (.slice va N.length vc) N.length (sgC N)) := ho
        have HD : Hid (DD wr rb s p bad) := hd
        have HOR : Hid (OR rb w wr) := hor
        have HOM : Hid (OmI s P B i p bad N) := hom
        have hnl : N.length ≤ 2000 := hom.len HS.out hd.le
        have t2 : wr.cell? ⟨rb, 2, none⟩ = some (.bool bad) := cell_at hd.box rfl
        have T1 : Hid (wr.cell? ⟨rb, 1, none⟩ = some (.int .i64 (p : Nat))) := cell_at hd.box rfl
        have hple := hd.le
        clear ho hd hor hom
        cases bad with
        | true =>
          go_wp2_with fail
          go_ret
          exact ⟨_, N, p, true, rfl, HO.out, HD.out, HOR.out, HOM.out.endBad⟩
        | false =>
          have HNX : Hid (Calls Try.prog 31 #[.pointer (some ⟨rb, 0, none⟩)] wr fun e w' => e = .returned (.int .u8 (nxB s p : Nat)) ∧ DD w' rb s (skip s p) false ∧ OR rb wr w') := rnext_any HD.out HS.out
          have hsk := skip_le (s := s) _ p rfl hple
          obtain ⟨q, hq⟩ : ∃ q, skip s p = q := ⟨_, rfl⟩
          obtain ⟨c, hc⟩ : ∃ c, nxB s p = c := ⟨_, rfl⟩
          have HQC : Hid (skip s p = q ∧ nxB s p = c) := ⟨hq, hc⟩
          rw [hq, hc] at HNX
          rw [hq] at hsk
          clear hq hc
          by_cases h94 : c = 94
          · subst h94
            have h1 := HOM.out.go HQC.out.2 hple
            rw [HQC.out.1] at h1
            have HGO : Hid (q < s.size ∧ (isB s 119 (q + 1) = true → OmI s P B i (q + 2) false (N ++ [(4, 0)])) ∧ (¬ isB s 119 (q + 1) = true → OmI s P B i (q + 1) true (N ++ [(4, 0)]))) := h1
            have hql := h1.1
            clear h1
            go_wp2_with fail
            refine Calls.mono HNX.out ?_
            rintro e w2 ⟨rfl, hd2, ho2⟩
            have HD2 : Hid (DD w2 rb s q false) := hd2
            have HOR2 : Hid (OR rb w w2) := HOR.out.trans ho2
            have t1 : w2.cell? ⟨rb, 1, none⟩ = some (.int .i64 (q : Nat)) := cell_at hd2.box rfl
            have tf : ∀ j, w2.frozen? ⟨rb, j, none⟩ = false := fun j => froz_of hd2.box
            have hw1 : IntKind.i64.wrap ((q : Int) + 1) = ((q + 1 : Nat) : Int) := by have := HS.out; rw [IntKind.wrap_i64]; omega
            obtain ⟨w3, hw3⟩ : ∃ w3, w3 = w2.setCell ⟨rb, 1, none⟩ (.int .i64 ((q + 1 : Nat) : Int)) := ⟨_, rfl⟩
            have HW3 : Hid (w3 = w2.setCell ⟨rb, 1, none⟩ (.int .i64 ((q : Int) + 1))) := hw3
            have HD3 : Hid (DD w3 rb s (q + 1) false) := by show DD _ _ _ _ _; rw [hw3]; exact HD2.out.move hql
            have HOR3 : Hid (OR rb w w3) := by show Only _ _ _; rw [hw3]; exact HOR2.out.trans or_set
            have HO3 : Hid (w3.ownsRow w.heap.size 81 2 (.slice va N.length vc) N.length (sgC N)) := own_only (own_only HO.out ho2 (fun b hb e => by have := (own_blk HO.out hb).1; have := HRB.out; omega)) (by rw [hw3]; exact or_set) (fun b hb e => by have := (own_blk HO.out hb).1; have := HRB.out; omega)
            have HTK : Hid (Calls Try.prog 32 #[.pointer (some ⟨rb, 0, none⟩), .int .u8 119] w3 fun e w' => e = .returned (.tuple #[]) ∧ TkD w3 rb s (q + 1) 119 w') := rtake_any HD3.out HS.out 119
            clear hd2 ho2 hw3 t2
            go_upto_region 18 with fail
            rw [← HW3.out]
            go_wp2_with fail
            refine Calls.mono HTK.out ?_
            rintro e w4 ⟨rfl, htk⟩
            unfold TkD at htk
            have HOR4 : Hid (OR rb w w4) := HOR3.out.trans htk.2
            have HO4 : Hid (w4.ownsRow w.heap.size 81 2 (.slice va N.length vc) N.length (sgC N)) := own_only HO3.out htk.2 (fun b hb e => by have := (own_blk HO.out hb).1; have := HRB.out; omega)
            obtain ⟨p4, hp4⟩ : ∃ p4, (if isB s 119 (q + 1) = true then q + 1 + 1 else q + 1) = p4 := ⟨_, rfl⟩
            obtain ⟨b4, hb4⟩ : ∃ b4, (if isB s 119 (q + 1) = true then false else true) = b4 := ⟨_, rfl⟩
            rw [hp4, hb4] at htk
            have HD4 : Hid (DD w4 rb s p4 b4) := htk.1
            have HPP : Hid (p < p4) := by show _ < _; rw [← hp4]; split <;> omega
            have HOM4 : Hid (OmI s P B i p4 b4 (N ++ [(4, 0)])) := by
              show OmI _ _ _ _ _ _ _
              rw [← hp4, ← hb4]
              by_cases hz : isB s 119 (q + 1) = true
              · rw [if_pos hz, if_pos hz]; exact HGO.out.2.1 hz
              · rw [if_neg hz, if_neg hz]; exact HGO.out.2.2 hz
            clear htk hp4 hb4 t1 tf
            go_wp2_with (at_builtin; refine wpList_append_lies _ rfl _ _ 22 rfl w.heap.size 81 i0 (.agg #[.int .i64 0, .int .u8 0]) 2 16 Try.underlying22 hi0 hz0 hz1 hz2 rfl (by decide) _ _ _ rfl (HO4.out.alloc _) ⟨w4.heap.size, 0, none⟩ 1 1 [.int .i64 4, .int .u8 0] rfl rfl (World.news_of_block (heap_last w4 _)) (by intro u hu; simp at hu; rcases hu with rfl | rfl <;> rfl) (by decide) (by unfold maxLen; omega) (by omega) (by have := HOR4.out.size; simp; omega) (w4.alloc (.cells #[.int .i64 4, .int .u8 0] 81)).heap.size rfl ?_; intro g7 c7 w7 ho7 hg7 hl7 _; have HO7 : Hid (w7.ownsRow w.heap.size 81 2 (.slice (some ⟨g7, 0, none⟩) (N.length + 1) c7) (N ++ [(4, 0)]).length (sgC (N ++ [(4, 0)]))) := (by show World.ownsRow _ _ _ _ _ _ _; rw [sgC_snoc, List.length_append]; exact ho7); have hrb7 : w7.heap[rb]? = (w4.alloc (.cells #[.int .i64 4, .int .u8 0] 81)).heap[rb]? := hg7.block rb (by have h1 := HD4.out.lt; rw [World.size_alloc]; exact Nat.lt_succ_of_lt h1) (fun e => by have h1 := (HO4.out.lt rb e.symm).1; have h2 := HRB.out; omega); have HD7 : Hid (DD w7 rb s p4 b4) := ⟨(hrb7.trans (heap_allo HD4.out.lt _)).trans HD4.out.box, HD4.out.le⟩; have HOR7 : Hid (OR rb w w7) := app_only HOR4.out hg7 (fun b hb => (HO4.out.lt b hb).1); clear ho7 hg7 hl7 hrb7)
            go_roundw
            case rel => exact ⟨p4, b4, N ++ [(4, 0)], HO7.out, HD7.out, HOR7.out, HOM4.out⟩
            case measure =>
              have m1 : w7.cell? ⟨rb, 1, none⟩ = some (.int .i64 (p4 : Nat)) := cell_at HD7.out.box rfl
              have m0 := T1.out
              have e1 : ((p4 : Nat) : Int).toNat = p4 := by omega
              have e0 : ((p : Nat) : Int).toNat = p := by omega
              simp only [m0, m1, e0, e1]
              have := HPP.out
              omega
          · have hcI : ¬ (c : Int) = 94 := by omega
            have hcb : ((c : Int) == 94) = false := beq_eq_false_iff_ne.2 hcI
            have hcd : decide ((c : Int) = 94) = false := decide_eq_false hcI
            have HEN : Hid (powP s P i [] = some (q, N)) := by
              have h1 := HOM.out.stop (by rw [HQC.out.2]; exact h94) hple
              rw [HQC.out.1] at h1
              exact h1
            clear h94
            go_wp2_with fail
            refine Calls.mono HNX.out ?_
            rintro e w2 ⟨rfl, hd2, ho2⟩
            have HD2 : Hid (DD w2 rb s q false) := hd2
            have HOR2 : Hid (OR rb w w2) := HOR.out.trans ho2
            have HO3 : Hid (w2.ownsRow w.heap.size 81 2 (.slice va N.length vc) N.length (sgC N)) := own_only HO.out ho2 (fun b hb e => by have := (own_blk HO.out hb).1; have := HRB.out; omega)
            clear hd2 ho2 t2
            go_wp2_with fail
            go_ret
            exact ⟨_, N, q, false, rfl, HO3.out, HD2.out, HOR2.out, .inl ⟨rfl, HEN.out⟩⟩
end Go.Proofs.Ythhlamehbcidgaa
