/- The document's reader: side. -/
import Derived.Test.YthhlamehbcidgaaY51
import Derived.Laws.AppendOwnNone
namespace Go.Proofs.Ythhlamehbcidgaa
open Go Go.RowKit Go.Lib
set_option linter.unusedVariables false

/-- While powers are read. -/
def LpI (s : ByteArray) (P : Nat → Sg → Option (Nat × Sg)) (B : Nat → Sg → Option Nat) (X : Option (Nat × Sg)) (Y : Option Nat) (i p : Nat) (bad : Bool) (N : Sg) : Prop :=
  (bad = false ∧ i < p ∧ N.length + 2 * i + 1 ≤ 2 * p ∧ skip s p = p ∧ ∃ n, s.size < n + p ∧ X = lpP s P n p N ∧ Y = lpE s P B n p N) ∨
  (bad = true ∧ X = none ∧ Y = some p ∧ N.length ≤ 2 * (s.size - i))
theorem LpI.len {s : ByteArray} {P : Nat → Sg → Option (Nat × Sg)} {B : Nat → Sg → Option Nat} {X : Option (Nat × Sg)} {Y : Option Nat} {i p : Nat} {bad : Bool} {N : Sg} (h : LpI s P B X Y i p bad N) (hs : s.size ≤ 1000) (hp : p ≤ s.size) : N.length ≤ 2000 := by
  rcases h with ⟨_, h1, h2, _⟩ | ⟨_, _, _, h1⟩ <;> omega
theorem LpI.endBad {s : ByteArray} {P : Nat → Sg → Option (Nat × Sg)} {B : Nat → Sg → Option Nat} {X : Option (Nat × Sg)} {Y : Option Nat} {i p : Nat} {N : Sg} (h : LpI s P B X Y i p true N) : (true = false ∧ X = some (p, N)) ∨ (true = true ∧ X = none ∧ Y = some p ∧ N.length ≤ 2 * (s.size - i)) := by
  rcases h with ⟨h0, _⟩ | h
  · cases h0
  · exact .inr h
theorem LpI.at {s : ByteArray} {P : Nat → Sg → Option (Nat × Sg)} {B : Nat → Sg → Option Nat} {X : Option (Nat × Sg)} {Y : Option Nat} {i p : Nat} {N : Sg} (h : LpI s P B X Y i p false N) : skip s p = p := by
  rcases h with ⟨_, _, _, h, _⟩ | ⟨h0, _⟩
  · exact h
  · cases h0
theorem LpI.lt {s : ByteArray} {P : Nat → Sg → Option (Nat × Sg)} {B : Nat → Sg → Option Nat} {X : Option (Nat × Sg)} {Y : Option Nat} {i p : Nat} {N : Sg} (h : LpI s P B X Y i p false N) : i < p := by
  rcases h with ⟨_, h, _⟩ | ⟨h0, _⟩
  · exact h
  · cases h0
theorem LpI.stop {s : ByteArray} {P : Nat → Sg → Option (Nat × Sg)} {B : Nat → Sg → Option Nat} {X : Option (Nat × Sg)} {Y : Option Nat} {i p : Nat} {N : Sg} (h : LpI s P B X Y i p false N) (hb : bgB (nxB s p) = false) (hp : p ≤ s.size) : X = some (p, N) := by
  have hsee := nx_beg hp
  rw [h.at, hb] at hsee
  rcases h with ⟨_, h1, h2, _, n, h3, h4, h5⟩ | ⟨h0, _⟩
  · obtain ⟨n, rfl⟩ : ∃ m, n = m + 1 := ⟨n - 1, by omega⟩
    rw [h4, lpP, if_neg (by rw [hsee]; simp)]
  · cases h0
theorem LpI.go {s : ByteArray} {P : Nat → Sg → Option (Nat × Sg)} {B : Nat → Sg → Option Nat} {X : Option (Nat × Sg)} {Y : Option Nat} {i p : Nat} {N : Sg} (hA : AppP P) (hE : AppE P B) (hp : ∀ i L j M, i ≤ s.size → P i L = some (j, M) → PG s i L j M) (h : LpI s P B X Y i p false N) (hb : bgB (nxB s p) = true) (hps : p ≤ s.size) {k : Nat} {M : Sg} {b : Bool}
    (hq : (b = false ∧ powP s P p [] = some (k, M)) ∨ (b = true ∧ powP s P p [] = none ∧ powE s P B p [] = some k ∧ M.length ≤ 2 * (s.size - p))) : LpI s P B X Y i k b (N ++ M ++ [(3, 0)]) ∧ M.length ≤ 2000 + 2 * s.size := by
  have hsee := nx_beg hps
  rw [h.at, hb] at hsee
  rcases h with ⟨_, h1, h2, _, n, h3, h4, h5⟩ | ⟨h0, _⟩
  · obtain ⟨n, rfl⟩ : ∃ m, n = m + 1 := ⟨n - 1, by omega⟩
    rw [lpP, if_pos hsee, pow_app hA p N] at h4
    rw [lpE, if_pos hsee, pow_app hA p N, pow_appE hA hE p N] at h5
    rcases hq with ⟨rfl, q1⟩ | ⟨rfl, q1, q2, q3⟩
    · rw [q1] at h4 h5
      obtain ⟨g1, g2, g3⟩ := powP_pg hp hps q1
      simp only [List.length_nil] at g3
      refine ⟨.inl ⟨rfl, by omega, ?_, pow_skip q1, n, by omega, h4, h5⟩, by omega⟩
      simp only [List.length_append, List.length_singleton]
      omega
    · rw [q1] at h4 h5
      refine ⟨.inr ⟨rfl, h4, h5.trans q2, ?_⟩, by omega⟩
      simp only [List.length_append, List.length_singleton]
      omega
  · cases h0
theorem LpI.start {s : ByteArray} {f : Nat} {i j : Nat} {M : Sg} {b : Bool} (hi : i ≤ s.size)
    (hq : (b = false ∧ powP s (pwsP s f) i [] = some (j, M)) ∨ (b = true ∧ powP s (pwsP s f) i [] = none ∧ powE s (pwsP s f) (pwsE s f) i [] = some j ∧ M.length ≤ 2 * (s.size - i))) : LpI s (pwsP s f) (pwsE s f) (pwsP s (f + 1) i []) (pwsE s (f + 1) i []) i j b M := by
  rcases hq with ⟨rfl, q1⟩ | ⟨rfl, q1, q2, q3⟩
  · obtain ⟨g1, g2, g3⟩ := powP_pg (pwsP_pg f) hi q1
    simp only [List.length_nil] at g3
    exact .inl ⟨rfl, g1, by omega, pow_skip q1, s.size + 1, by omega, by rw [pwsP, q1], by rw [pwsE, q1]⟩
  · exact .inr ⟨rfl, by rw [pwsP, q1], by rw [pwsE, q1]; exact q2, q3⟩
theorem own_cases {w : World} {base n : Nat} {v : Value} {xs : List Value} (h : w.ownsRow base 81 2 v n xs) : (v = .slice none 0 0 ∧ n = 0) ∨ ∃ g cap, v = .slice (some ⟨g, 0, none⟩) n cap := by
  obtain ⟨h0, h⟩ := h
  rcases h with ⟨rfl, hn⟩ | ⟨g, cap, cur, rfl, _⟩
  · exact .inl ⟨rfl, hn⟩
  · exact .inr ⟨g, cap, rfl⟩

set_option maxHeartbeats 16000000 in
set_option maxRecDepth 100000 in
theorem rside_step {rb : Nat} {s : ByteArray} (hs : s.size ≤ 1000) (f : Nat) (hc : PdC (f + 1) rb s 58 (fun i => powP s (pwsP s f) i []) (fun i => powE s (pwsP s f) (pwsE s f) i [])) : PdC (f + 1) rb s 30 (fun i => pwsP s (f + 1) i []) (fun i => pwsE s (f + 1) i []) := by
  intro w i h hf
  have HF : Hid (s.size < f + 1 + i) := hf
  have HS : Hid (s.size ≤ 1000) := hs
  have HPC : Hid (PdC (f + 1) rb s 58 (fun i => powP s (pwsP s f) i []) (fun i => powE s (pwsP s f) (pwsE s f) i [])) := hc
  have HRB : Hid (rb < w.heap.size) := h.lt
  have HILE : Hid (i ≤ s.size) := h.le
  have HPW : Hid (Calls Try.prog 58 #[.pointer (some ⟨rb, 0, none⟩)] w (PdQ (powP s (pwsP s f) i []) (powE s (pwsP s f) (pwsE s f) i []) s i rb w)) := hc w i h hf
  obtain ⟨i0, hi0, hz0, hz1, hz2⟩ := info_parts Try.info_sign
  clear h hc hf
  obtain ⟨X, hX⟩ : ∃ X, pwsP s (f + 1) i [] = X := ⟨_, rfl⟩
  obtain ⟨Y, hY⟩ : ∃ Y, pwsE s (f + 1) i [] = Y := ⟨_, rfl⟩
  have HXY : Hid (pwsP s (f + 1) i [] = X ∧ pwsE s (f + 1) i [] = Y) := ⟨hX, hY⟩
  show Calls Try.prog 30 #[.pointer (some ⟨rb, 0, none⟩)] w (PdQ (pwsP s (f + 1) i []) (pwsE s (f + 1) i []) s i rb w)
  rw [hX, hY]
  clear hX hY
  go_enter Try.func30, Try.ntmps30
  go_wp2_with fail
  refine Calls.mono HPW.out ?_
  rintro e w1 ⟨u, M0, j0, bad0, rfl, ho0, hd0, hor0, hpd⟩
  obtain ⟨va0, vc0, rfl⟩ := own_shape ho0
  have hst := LpI.start (f := f) HILE.out hpd
  rw [HXY.out.1, HXY.out.2] at hst
  have HST : Hid (w1.ownsRow w.heap.size 81 2 (.slice va0 M0.length vc0) M0.length (sgC M0) ∧ DD w1 rb s j0 bad0 ∧ OR rb w w1 ∧ LpI s (pwsP s f) (pwsE s f) X Y i j0 bad0 M0) := ⟨ho0, hd0, hor0, hst⟩
  clear ho0 hd0 hor0 hpd hst
  go_wp2_with fail
  go_loopw [3] (fun vo wr => ∃ (p : Nat) (bad : Bool) (N : Sg), wr.ownsRow w.heap.size 81 2 vo N.length (sgC N) ∧ DD wr rb s p bad ∧ OR rb w wr ∧ LpI s (pwsP s f) (pwsE s f) X Y i p bad N) (fun _ wr => match wr.cell? ⟨rb, 2, none⟩ with | some (.bool true) => 0 | _ => s.size + 2 - (match wr.cell? ⟨rb, 1, none⟩ with | some (.int _ x) => x.toNat | _ => 0))
  case atStart => exact ⟨_, _, _, HST.out.1, HST.out.2.1, HST.out.2.2.1, HST.out.2.2.2⟩
  case round =>
    obtain ⟨p, bad, N, ho, hd, hor, hlp⟩ := hrel
    obtain ⟨va, vc, rfl⟩ := own_shape ho
    have HO : Hid (wr.ownsRow w.heap.size 81 2 (.slice va N.length vc) N.length (sgC N)) := ho
    have HD : Hid (DD wr rb s p bad) := hd
    have HOR : Hid (OR rb w wr) := hor
    have HLP : Hid (LpI s (pwsP s f) (pwsE s f) X Y i p bad N) := hlp
    have hnl : N.length ≤ 2000 := hlp.len HS.out hd.le
    have t2 : wr.cell? ⟨rb, 2, none⟩ = some (.bool bad) := cell_at hd.box rfl
    have T1 : Hid (wr.cell? ⟨rb, 1, none⟩ = some (.int .i64 (p : Nat))) := cell_at hd.box rfl
    have T2 : Hid (wr.cell? ⟨rb, 2, none⟩ = some (.bool bad)) := cell_at hd.box rfl
    have HPLE : Hid (p ≤ s.size) := hd.le
    clear ho hd hor hlp
    cases bad with
    | true =>
      go_wp2_with fail
      go_ret
      exact ⟨_, N, p, true, rfl, HO.out, HD.out, HOR.out, HLP.out.endBad⟩
    | false =>
      have HNX : Hid (Calls Try.prog 31 #[.pointer (some ⟨rb, 0, none⟩)] wr fun e w' => e = .returned (.int .u8 (nxB s p : Nat)) ∧ DD w' rb s p false ∧ OR rb wr w') := by
        have := rnext_any HD.out HS.out
        rw [HLP.out.at] at this
        exact this
      have hlt := nxB_lt s p
      obtain ⟨c, hc⟩ : ∃ c, nxB s p = c := ⟨_, rfl⟩
      have HC : Hid (nxB s p = c) := hc
      rw [hc] at HNX hlt
      have HBG : Hid (∀ y, Calls Try.prog 59 #[.int .u8 (c : Nat)] y fun e w' => e = .returned (.bool (bgB c)) ∧ y = w') := fun y => rbegins_any c hlt y
      clear hc hlt
      cases hbg : bgB c with
      | false =>
        have HEN : Hid (X = some (p, N)) := HLP.out.stop (by rw [HC.out]; exact hbg) HPLE.out
        rw [hbg] at HBG
        clear hbg
        go_wp2_with fail
        refine Calls.mono HNX.out ?_
        rintro e w2 ⟨rfl, hd2, ho2⟩
        have HD2 : Hid (DD w2 rb s p false) := hd2
        have HOR2 : Hid (OR rb w w2) := HOR.out.trans ho2
        have HO3 : Hid (w2.ownsRow w.heap.size 81 2 (.slice va N.length vc) N.length (sgC N)) := own_only HO.out ho2 (fun b hb e => by have := (own_blk HO.out hb).1; have := HRB.out; omega)
        clear hd2 ho2 t2
        go_wp2_with (go_at_call 59; refine (HBG.out _).mono ?_; rintro e w1 ⟨rfl, rfl⟩)
        go_ret
        exact ⟨_, N, p, false, rfl, HO3.out, HD2.out, HOR2.out, .inl ⟨rfl, HEN.out⟩⟩
      | true =>
        have HBT : Hid (bgB (nxB s p) = true) := by show _ = _; rw [HC.out]; exact hbg
        rw [hbg] at HBG
        clear hbg
        go_wp2_with fail
        refine Calls.mono HNX.out ?_
        rintro e w2 ⟨rfl, hd2, ho2⟩
        have HOR2 : Hid (OR rb w w2) := HOR.out.trans ho2
        have HO2 : Hid (w2.ownsRow w.heap.size 81 2 (.slice va N.length vc) N.length (sgC N)) := own_only HO.out ho2 (fun b hb e => by have := (own_blk HO.out hb).1; have := HRB.out; omega)
        have HPW2 : Hid (Calls Try.prog 58 #[.pointer (some ⟨rb, 0, none⟩)] w2 (PdQ (powP s (pwsP s f) p []) (powE s (pwsP s f) (pwsE s f) p []) s p rb w2)) := HPC.out w2 p hd2 (by have h1 := HF.out; have h2 := HLP.out.lt; omega)
        clear hd2 ho2 t2
        go_wp2_with (go_at_call 59; refine (HBG.out _).mono ?_; rintro e w1 ⟨rfl, rfl⟩)
        refine Calls.mono HPW2.out ?_
        rintro e w5 ⟨u, M, k, b4, rfl, hou, hd5, hor5, hpd⟩
        obtain ⟨hln, hml⟩ := HLP.out.go (pws_app f) (fun i L => pws_appE f i L) (pwsP_pg f) HBT.out HPLE.out hpd
        have HLN : Hid (LpI s (pwsP s f) (pwsE s f) X Y i k b4 (N ++ M ++ [(3, 0)])) := hln
        have HPK : Hid (b4 = true ∨ (b4 = false ∧ p < k)) := by
          rcases hpd with ⟨q0, q1⟩ | ⟨q0, _⟩
          · exact .inr ⟨q0, (powP_pg (pwsP_pg f) HPLE.out q1).1⟩
          · exact .inl q0
        have HD5 : Hid (DD w5 rb s k b4) := hd5
        have HOR5 : Hid (OR rb w w5) := HOR2.out.trans hor5
        have HOU : Hid (w5.ownsRow w2.heap.size 81 2 u M.length (sgC M)) := hou
        have HO5 : Hid (w5.ownsRow w.heap.size 81 2 (.slice va N.length vc) N.length (sgC N)) := own_only HO2.out hor5 (fun b hb e => by have := (own_blk HO2.out hb).1; have := HRB.out; omega)
        have hss := HS.out
        clear hln hd5 hor5 hpd
        rcases own_cases hou with ⟨rfl, hM⟩ | ⟨g3, c3, rfl⟩
        · have hM0 : M = [] := List.eq_nil_of_length_eq_zero hM
          subst hM0
          clear hou hM
          go_upto_region 4 with (at_builtin; refine wpList_append_own_none rfl _ _ 22 rfl w.heap.size 81 i0 2 Try.underlying22 hi0 _ _ _ rfl HO5.out rfl ?_)
          go_wp2_with (at_builtin; refine wpList_append_lies _ rfl _ _ 22 rfl w.heap.size 81 i0 (.agg #[.int .i64 0, .int .u8 0]) 2 16 Try.underlying22 hi0 hz0 hz1 hz2 rfl (by decide) _ _ _ rfl (HO5.out.alloc _) ⟨w5.heap.size, 0, none⟩ 1 1 [.int .i64 3, .int .u8 0] rfl rfl (World.news_of_block (heap_last w5 _)) (by intro u hu; simp at hu; rcases hu with rfl | rfl <;> rfl) (by decide) (by unfold maxLen; omega) (by omega) (by have := HOR5.out.size; simp; omega) (w5.alloc (.cells #[.int .i64 3, .int .u8 0] 81)).heap.size rfl ?_; intro g7 c7 w7 ho7 hg7 hl7 _; have HO7 : Hid (w7.ownsRow w.heap.size 81 2 (.slice (some ⟨g7, 0, none⟩) (N.length + 1) c7) (N ++ [] ++ [(3, 0)]).length (sgC (N ++ [] ++ [(3, 0)]))) := (by show World.ownsRow _ _ _ _ _ _ _; rw [sgC_snoc, List.length_append]; exact (by rw [List.append_nil]; exact ho7)); have hrb7 : w7.heap[rb]? = (w5.alloc (.cells #[.int .i64 3, .int .u8 0] 81)).heap[rb]? := hg7.block rb (by have h1 := HD5.out.lt; rw [World.size_alloc]; exact Nat.lt_succ_of_lt h1) (fun e => by have h1 := (HO5.out.lt rb e.symm).1; have h2 := HRB.out; omega); have HD7 : Hid (DD w7 rb s k b4) := ⟨(hrb7.trans (heap_allo HD5.out.lt _)).trans HD5.out.box, HD5.out.le⟩; have HOR7 : Hid (OR rb w w7) := app_only HOR5.out hg7 (fun b hb => (HO5.out.lt b hb).1); clear ho7 hg7 hl7 hrb7)
          go_roundw
          case rel => exact ⟨k, b4, N ++ [] ++ [(3, 0)], HO7.out, HD7.out, HOR7.out, HLN.out⟩
          case measure =>
            have m1 : w7.cell? ⟨rb, 1, none⟩ = some (.int .i64 (k : Nat)) := cell_at HD7.out.box rfl
            have m2 : w7.cell? ⟨rb, 2, none⟩ = some (.bool b4) := cell_at HD7.out.box rfl
            have m0 := T1.out
            have m3 := T2.out
            have e1 : ((k : Nat) : Int).toNat = k := by omega
            have e0 : ((p : Nat) : Int).toNat = p := by omega
            have hpl := HPLE.out
            rcases HPK.out with h1 | ⟨h1, h2⟩
            · subst h1
              simp only [m0, m2, m3, e0]
              omega
            · subst h1
              simp only [m0, m1, m2, m3, e0, e1]
              omega
        · clear hou
          go_upto_region 4 with (at_builtin; refine wpList_append_own _ rfl _ _ 22 rfl w.heap.size 81 i0 (.agg #[.int .i64 0, .int .u8 0]) 2 16 Try.underlying22 hi0 hz0 hz1 hz2 rfl (by decide) _ _ _ rfl HO5.out ⟨g3, 0, none⟩ M.length c3 (sgC M) rfl (by rw [sgC_len]) (fun j u hu => HOU.out.cells (g := g3) rfl j u hu) (sgC_one _) (by unfold maxLen; omega) (by omega) HOR5.out.size ?_; intro v9 w9 ho9 hg9 _)
          obtain ⟨va9, vc9, rfl⟩ := own_shape ho9
          have HO9 : Hid (w9.ownsRow w.heap.size 81 2 (.slice va9 (N.length + M.length) vc9) (N.length + M.length) (sgC (N ++ M))) := by show World.ownsRow _ _ _ _ _ _ _; rw [sgC_app]; exact ho9
          have HD9 : Hid (DD w9 rb s k b4) := ⟨(hg9.block rb HD5.out.lt (fun e => by have h1 := (HO5.out.lt rb e.symm).1; have h2 := HRB.out; omega)).trans HD5.out.box, HD5.out.le⟩
          have HOR9 : Hid (OR rb w w9) := ⟨HOR5.out.zero.grown hg9 (by omega) (fun _ _ => Nat.zero_le _), fun j hj hs => by
            rw [hg9.block j (Nat.lt_of_lt_of_le hj HOR5.out.size) (fun e => by have := (HO5.out.lt j e.symm).1; omega)]
            exact HOR5.out.block j hj hs⟩
          clear ho9 hg9
          go_wp2_with (at_builtin; refine wpList_append_lies _ rfl _ _ 22 rfl w.heap.size 81 i0 (.agg #[.int .i64 0, .int .u8 0]) 2 16 Try.underlying22 hi0 hz0 hz1 hz2 rfl (by decide) _ _ _ rfl (HO9.out.alloc _) ⟨w9.heap.size, 0, none⟩ 1 1 [.int .i64 3, .int .u8 0] rfl rfl (World.news_of_block (heap_last w9 _)) (by intro u hu; simp at hu; rcases hu with rfl | rfl <;> rfl) (by decide) (by unfold maxLen; omega) (by omega) (by have := HOR9.out.size; simp; omega) (w9.alloc (.cells #[.int .i64 3, .int .u8 0] 81)).heap.size rfl ?_; intro g7 c7 w7 ho7 hg7 hl7 _; have HO7 : Hid (w7.ownsRow w.heap.size 81 2 (.slice (some ⟨g7, 0, none⟩) ((N.length + M.length) + 1) c7) (N ++ M ++ [(3, 0)]).length (sgC (N ++ M ++ [(3, 0)]))) := (by show World.ownsRow _ _ _ _ _ _ _; rw [sgC_snoc, List.length_append]; exact (by rw [List.length_append]; exact ho7)); have hrb7 : w7.heap[rb]? = (w9.alloc (.cells #[.int .i64 3, .int .u8 0] 81)).heap[rb]? := hg7.block rb (by have h1 := HD9.out.lt; rw [World.size_alloc]; exact Nat.lt_succ_of_lt h1) (fun e => by have h1 := (HO9.out.lt rb e.symm).1; have h2 := HRB.out; omega); have HD7 : Hid (DD w7 rb s k b4) := ⟨(hrb7.trans (heap_allo HD9.out.lt _)).trans HD9.out.box, HD9.out.le⟩; have HOR7 : Hid (OR rb w w7) := app_only HOR9.out hg7 (fun b hb => (HO9.out.lt b hb).1); clear ho7 hg7 hl7 hrb7)
          go_roundw
          case rel => exact ⟨k, b4, N ++ M ++ [(3, 0)], HO7.out, HD7.out, HOR7.out, HLN.out⟩
          case measure =>
            have m1 : w7.cell? ⟨rb, 1, none⟩ = some (.int .i64 (k : Nat)) := cell_at HD7.out.box rfl
            have m2 : w7.cell? ⟨rb, 2, none⟩ = some (.bool b4) := cell_at HD7.out.box rfl
            have m0 := T1.out
            have m3 := T2.out
            have e1 : ((k : Nat) : Int).toNat = k := by omega
            have e0 : ((p : Nat) : Int).toNat = p := by omega
            have hpl := HPLE.out
            rcases HPK.out with h1 | ⟨h1, h2⟩
            · subst h1
              simp only [m0, m2, m3, e0]
              omega
            · subst h1
              simp only [m0, m1, m2, m3, e0, e1]
              omega

theorem lp_skip {s : ByteArray} {P : Nat → Sg → Option (Nat × Sg)} : ∀ (n p : Nat) (N : Sg) (j : Nat) (M : Sg), skip s p = p → lpP s P n p N = some (j, M) → skip s j = j
  | 0, p, N, j, M, _, h => by simp [lpP] at h
  | n + 1, p, N, j, M, hp, h => by
    rw [lpP] at h
    split at h
    · split at h
      · cases h
      · rename_i q k K hq
        exact lp_skip n _ _ j M (pow_skip hq) h
    · simp only [Option.some.injEq, Prod.mk.injEq] at h
      obtain ⟨rfl, rfl⟩ := h
      exact hp
theorem pws_skip {s : ByteArray} {f i j : Nat} {L M : Sg} (h : pwsP s f i L = some (j, M)) : skip s j = j := by
  cases f with
  | zero => simp [pwsP] at h
  | succ f =>
    rw [pwsP] at h
    split at h
    · cases h
    · rename_i q k K hq
      exact lp_skip _ _ _ j M (pow_skip hq) h
theorem rside_any {rb : Nat} {s : ByteArray} (hs : s.size ≤ 1000) : ∀ f, PdC f rb s 30 (fun i => pwsP s f i []) (fun i => pwsE s f i [])
  | 0 => fun w i h hf => by have := h.le; omega
  | f + 1 => rside_step hs f (rpower_ok hs (pwsP_pg f) (fun i j M h => pws_skip h) (rside_any hs f))
end Go.Proofs.Ythhlamehbcidgaa
