/- Proved: the card of eggboxlaw02.BitsRanks: it answers true at every set and every i (P2.10), with math/bits.deBruijn64tab as the program's text lays it: bits.Rank tells how many numbers of a set stand below i, and the number with a rank is that one of bits.List; its arguments read behind the call as before. The card ties the variable to the pruned copy of the project that the seat holds. -/
import Derived.Test.YthjkfpgocidpeaaDoorDj
import Derived.Test.YthjkfpgocidpeaaDoorBk
import Derived.Deep.RegionHeld3
import Derived.Deep.DeepCutAuto
import Derived.ProofKit
import Derived.OpenShut
import Derived.ShutString
import Derived.ChangeOld
import Derived.JoinedCond
import Derived.LaidMore
import Derived.Stop.Joined
import Derived.Lib.LaidTab
import Derived.SevenTiedAt
import Derived.Test.YthjkfpgocidpeaaDoorTie
import Derived.Test.YthjkfpgocidpeaaDoorCards
namespace Go.Proofs.YthjkfpgocidpeaaDoor.bitsRanks
open Go.ChangeShapes Go.WideShapes Go.ChangeAt Go.RowKit Go.Lib
set_option linter.unusedVariables false

theorem cnt_all {c : Nat} : ∀ b, b ≤ c → cnt b (allN c) = b
  | 0, _ => rfl
  | b + 1, h => by rw [cnt_succ, cnt_all b (by omega), testBit_all, decide_eq_true (by omega)]; rfl
theorem cnt_all512 {c : Nat} (h : c ≤ 512) : cnt 512 (allN c) = c := by
  have e := cnt_and_all (allN c) c h
  have e2 : andN (allN c) (allN c) = allN c := Nat.and_self _
  rw [e2] at e
  rw [e, cnt_all c (Nat.le_refl _)]
theorem filter_sorted : ∀ (xs : List Int) (r : Nat), xs.Pairwise (· < ·) → r < xs.length → (xs.filter fun x => decide (x < xs.getD r 0)).length = r
  | [], _, _, h => by simp at h
  | x :: t, 0, hp, _ => by
    rw [List.pairwise_cons] at hp
    have : (x :: t).filter (fun y => decide (y < (x :: t).getD 0 0)) = [] := by
      rw [List.filter_eq_nil_iff]
      intro y hy
      simp only [List.getD_cons_zero, decide_eq_true_eq]
      rcases List.mem_cons.1 hy with rfl | hy
      · omega
      · have := hp.1 y hy; omega
    rw [this]; rfl
  | x :: t, r + 1, hp, h => by
    rw [List.pairwise_cons] at hp
    have hr : r < t.length := by simpa using h
    have hx : x < t.getD r 0 := by
      rw [List.getD_eq_getElem?_getD, List.getElem?_eq_getElem hr]
      exact hp.1 _ (List.getElem_mem hr)
    rw [List.getD_cons_succ, List.filter_cons_of_pos (by simpa using hx), List.length_cons, filter_sorted t r hp.2 hr]
theorem rank_at (N r : Nat) (h : r < (lst N 512).length) : rankN N ((lst N 512).getD r 0) = r := by
  rw [← lst_rank N, filter_sorted _ _ (lst_sorted N 512) h]

/-- Two blocks hold what they held at W; nothing below W's end is written. -/
abbrev S2 (W : World) (p1 p2 : Nat) (l1 l2 : Array Value) (w' : World) : Prop := (∀ o, w'.cell? ⟨p1, o, none⟩ = l1[o]?) ∧ (∀ o, w'.cell? ⟨p2, o, none⟩ = l2[o]?) ∧ Below W.heap.size W w'
theorem s2_of {W : World} {p1 p2 : Nat} {l1 l2 : Array Value} (r1 : RowAt W p1 l1) (r2 : RowAt W p2 l2) {w' : World} (h : Below W.heap.size W w') : S2 W p1 p2 l1 l2 w' := ⟨(r1.stay h).cell, (r2.stay h).cell, h⟩
theorem s2_step {W : World} {p1 p2 : Nat} {l1 l2 : Array Value} (r1 : RowAt W p1 l1) (r2 : RowAt W p2 l2) {w1 w2 : World} (hb : Below w1.heap.size w1 w2) (h : S2 W p1 p2 l1 l2 w1) : S2 W p1 p2 l1 l2 w2 := s2_of r1 r2 (go_on h.2.2 hb)
theorem s2_below {W : World} {p1 p2 : Nat} {l1 l2 : Array Value} {w' : World} (h : S2 W p1 p2 l1 l2 w') : Below W.heap.size W w' := h.2.2
/-- One block and one cell hold what they held at W. -/
abbrev S3 (W : World) (p1 : Nat) (l1 : Array Value) (p2 o2 : Nat) (x : Value) (w' : World) : Prop := (∀ o, w'.cell? ⟨p1, o, none⟩ = l1[o]?) ∧ w'.cell? ⟨p2, o2, none⟩ = some x ∧ Below W.heap.size W w'
theorem s3_of {W : World} {p1 p2 o2 : Nat} {l1 : Array Value} {x : Value} (r1 : RowAt W p1 l1) (h2 : p2 < W.heap.size) (c2 : W.cell? ⟨p2, o2, none⟩ = some x) {w' : World} (h : Below W.heap.size W w') : S3 W p1 l1 p2 o2 x w' := ⟨(r1.stay h).cell, by rw [below_cell h h2]; exact c2, h⟩
theorem s3_step {W : World} {p1 p2 o2 : Nat} {l1 : Array Value} {x : Value} (r1 : RowAt W p1 l1) (h2 : p2 < W.heap.size) (c2 : W.cell? ⟨p2, o2, none⟩ = some x) {w1 w2 : World} (hb : Below w1.heap.size w1 w2) (h : S3 W p1 l1 p2 o2 x w1) : S3 W p1 l1 p2 o2 x w2 := s3_of r1 h2 c2 (go_on h.2.2 hb)
theorem s3_below {W : World} {p1 p2 o2 : Nat} {l1 : Array Value} {x : Value} {w' : World} (h : S3 W p1 l1 p2 o2 x w') : Below W.heap.size W w' := h.2.2

set_option maxHeartbeats 8000000 in
set_option maxRecDepth 100000 in
theorem walk (N : Nat) (i : Int) (hN : Fits N) (hi : (Lit.int .i64 i).wf = true) (w : World) (hT : TzTab w) :
    Calls Tryd.prog 5 #[setV N, .int .i64 i] w fun e w' => e = .returned (.bool true) ∧ Below w.heap.size w w' := by
  clear hi
  have HT : Hid (TzTab w) := hT
  have r0 := RowAt.last w (cellsF (word N)) 25
  have BB := (Below.refl w.heap.size w).alloc (Nat.le_refl _) (.cells (cellsF (word N)) 25)
  clear hT
  by_cases hin : 0 ≤ i ∧ i ≤ 512
  · obtain ⟨c, rfl⟩ : ∃ c : Nat, i = c := ⟨i.toNat, by omega⟩
    have hc5 : c ≤ 512 := by omega
    obtain ⟨X, HX⟩ : ∃ X, Hid (allN c = X) := ⟨_, rfl⟩
    obtain ⟨Y, HY⟩ : ∃ Y, Hid (andN N X = Y) := ⟨_, rfl⟩
    obtain ⟨R, HR⟩ : ∃ R, Hid (cnt c N = R) := ⟨_, rfl⟩
    have HXb : Hid (belowN (c : Int) = X ∧ belowE (c : Int) = 0) := by
      show _ ∧ _
      unfold belowN belowE
      rw [if_neg (by omega), if_neg (by omega), Int.toNat_natCast]
      exact ⟨HX.out, rfl⟩
    have HXs : Hid (cnt 512 X = c) := by show _ = _; rw [← HX.out]; exact cnt_all512 hc5
    have HYs : Hid (cnt 512 Y = R) := by show _ = _; rw [← HY.out, ← HX.out, cnt_and_all N c hc5, HR.out]
    have HRk : Hid (rankN N (c : Int) = R) := by
      show _ = _
      have : clampN (c : Int) = c := by unfold clampN; omega
      rw [rankN, this, HR.out]
    have hR5 : R ≤ 512 := by rw [← HR.out]; exact Nat.le_trans (cnt_le c N) hc5
    have hcI0 : ¬ (c : Int) < 0 := by omega
    have hcI5 : ¬ 512 < (c : Int) := by omega
    clear hin
    unfold setV cellsF
    unfold cellsF at r0 BB
    go_enter Tryd.func5, Tryd.ntmps5
    go_wp2_with fail
    refine (below_any (c : Int) _).mono ?_
    rintro e w1 ⟨rfl, hb1⟩
    rw [HXb.out.1, HXb.out.2]
    unfold setV cellsF
    have rs := RowAt.stay r0 hb1
    have BB := go_on BB hb1
    clear hb1 r0
    go_wp2_with fail
    generalize hWd : w1.alloc (.cells #[.int .u64 (word X 0 : Nat), .int .u64 (word X 1 : Nat), .int .u64 (word X 2 : Nat), .int .u64 (word X 3 : Nat), .int .u64 (word X 4 : Nat), .int .u64 (word X 5 : Nat), .int .u64 (word X 6 : Nat), .int .u64 (word X 7 : Nat)] 25) = W
    have R1 : RowAt W w.heap.size #[.int .u64 (word N 0 : Nat), .int .u64 (word N 1 : Nat), .int .u64 (word N 2 : Nat), .int .u64 (word N 3 : Nat), .int .u64 (word N 4 : Nat), .int .u64 (word N 5 : Nat), .int .u64 (word N 6 : Nat), .int .u64 (word N 7 : Nat)] := by rw [← hWd]; exact rs.alloc _
    have R2 : RowAt W w1.heap.size #[.int .u64 (word X 0 : Nat), .int .u64 (word X 1 : Nat), .int .u64 (word X 2 : Nat), .int .u64 (word X 3 : Nat), .int .u64 (word X 4 : Nat), .int .u64 (word X 5 : Nat), .int .u64 (word X 6 : Nat), .int .u64 (word X 7 : Nat)] := by rw [← hWd]; exact RowAt.last _ _ _
    have BW : Hid (Below w.heap.size w W) := by show Below _ _ _; rw [← hWd]; exact BB.alloc BB.size _
    have S0 : S2 W w.heap.size w1.heap.size #[.int .u64 (word N 0 : Nat), .int .u64 (word N 1 : Nat), .int .u64 (word N 2 : Nat), .int .u64 (word N 3 : Nat), .int .u64 (word N 4 : Nat), .int .u64 (word N 5 : Nat), .int .u64 (word N 6 : Nat), .int .u64 (word N 7 : Nat)] #[.int .u64 (word X 0 : Nat), .int .u64 (word X 1 : Nat), .int .u64 (word X 2 : Nat), .int .u64 (word X 3 : Nat), .int .u64 (word X 4 : Nat), .int .u64 (word X 5 : Nat), .int .u64 (word X 6 : Nat), .int .u64 (word X 7 : Nat)] W.drew := s2_of R1 R2 (Below.refl _ _).drew
    clear hWd rs BB
    go_cut [39] (fun s39 wx => s39 = .bool false ∧ Below W.heap.size W wx)
    case first =>
      go_region_held3 (fun w' => S2 W w.heap.size w1.heap.size #[.int .u64 (word N 0 : Nat), .int .u64 (word N 1 : Nat), .int .u64 (word N 2 : Nat), .int .u64 (word N 3 : Nat), .int .u64 (word N 4 : Nat), .int .u64 (word N 5 : Nat), .int .u64 (word N 6 : Nat), .int .u64 (word N 7 : Nat)] #[.int .u64 (word X 0 : Nat), .int .u64 (word X 1 : Nat), .int .u64 (word X 2 : Nat), .int .u64 (word X 3 : Nat), .int .u64 (word X 4 : Nat), .int .u64 (word X 5 : Nat), .int .u64 (word X 6 : Nat), .int .u64 (word X 7 : Nat)] w') (first | exact S0 | exact s2_step R1 R2 (by assumption) (by assumption)) (first
        | (go_at_call 13; refine (num_any _ _).mono ?_; rintro e wn ⟨rfl, rfl⟩)
        | (go_at_call 30; refine (rank_any N _ _).mono ?_; rintro e w3 ⟨rfl, hb3⟩; rw [HRk.out])
        | (go_at_call 25; refine (inter_any N X _).mono ?_; rintro e w4 ⟨rfl, hb4⟩; rw [HY.out]; unfold setV cellsF)
        | (go_at_call_of 22 (Value.int IntKind.u64 ((word Y 0 : Nat) : Int)); refine (size_any Y _).mono ?_; rintro e w5 ⟨rfl, hb5⟩; rw [HYs.out])
        | (go_at_call_of 22 (Value.int IntKind.u64 ((word X 0 : Nat) : Int)); refine (size_any X _).mono ?_; rintro e w6 ⟨rfl, hb6⟩; rw [HXs.out]))
      all_goals (go_wp2_with fail; go_meet; exact ⟨rfl, s2_below (by assumption)⟩)
    case rest =>
      obtain ⟨rfl, hbc⟩ := hcut
      have rs := RowAt.stay R1 hbc
      have cs := RowAt.cell rs
      have BC : Hid (Below w.heap.size w wc) := go_on BW.out hbc
      clear hbc S0 R1 R2
      go_wp2_with fail
      refine (list_any N _ (HT.out.below BC.out HT.out.pos)).mono ?_
      rintro e W2 ⟨v, rfl, hown, hb2⟩
      have rs := RowAt.stay rs hb2
      have HR2 : Hid (Reads W2 v (lst N 512)) := own_reads hown
      have BW2 : Hid (Below w.heap.size w W2) := go_on BC.out hb2
      have HRA : Hid (∀ r, r < (lst N 512).length → rankN N ((lst N 512).getD r 0) = r) := fun r h => rank_at N r h
      have hlen := lst_le N 512
      obtain ⟨xs, hxs⟩ : ∃ xs, lst N 512 = xs := ⟨_, rfl⟩
      rw [hxs] at HR2 HRA hlen
      obtain ⟨aa, ca, hva, hrd⟩ := HR2.out
      subst hva
      have HRD : Hid _ := hrd
      clear hrd HR2 hxs hown hb2 cs
      go_wp2_with fail
      go_loopw [8] (fun vr wr => ∃ r : Nat, r ≤ xs.length ∧ vr = .int .i64 r ∧ Below W2.heap.size W2 wr) (fun vr _ => xs.length - (intOf vr).toNat)
      case atStart => exact ⟨0, Nat.zero_le _, rfl, Below.refl _ _⟩
      case round =>
        obtain ⟨r, hr, rfl, hbr⟩ := hrel
        by_cases hlt : r < xs.length
        · have hrI : (r : Int) < xs.length := by omega
          obtain ⟨g, o, rfl, hg, hcell⟩ := HRD.out r hlt
          have hra := HRA.out r hlt
          obtain ⟨x, hx⟩ : ∃ x, xs.getD r 0 = x := ⟨_, rfl⟩
          rw [hx] at hra hcell
          have HRA2 : Hid _ := hra
          clear hx hra
          have S0 : S3 W2 w.heap.size #[.int .u64 (word N 0 : Nat), .int .u64 (word N 1 : Nat), .int .u64 (word N 2 : Nat), .int .u64 (word N 3 : Nat), .int .u64 (word N 4 : Nat), .int .u64 (word N 5 : Nat), .int .u64 (word N 6 : Nat), .int .u64 (word N 7 : Nat)] g (o + r) (.int .i64 x) wr.drew := s3_of rs hg hcell hbr.drew
          have HBR : Hid _ := hbr
          clear hbr
          go_wp2_with fail
          go_region_held3 (fun w' => S3 W2 w.heap.size #[.int .u64 (word N 0 : Nat), .int .u64 (word N 1 : Nat), .int .u64 (word N 2 : Nat), .int .u64 (word N 3 : Nat), .int .u64 (word N 4 : Nat), .int .u64 (word N 5 : Nat), .int .u64 (word N 6 : Nat), .int .u64 (word N 7 : Nat)] g (o + r) (.int .i64 x) w') (first | exact S0 | exact s3_step rs hg hcell (by assumption) (by assumption)) (first | (go_at_call 30; refine (rank_any N _ _).mono ?_; rintro e w3 ⟨rfl, hb3⟩; rw [HRA2.out]))
          all_goals go_wp2_with fail
          all_goals go_roundw
          case rel => exact ⟨r + 1, by omega, by go_num, s3_below (by assumption)⟩
          case measure => simp [intOf]; omega
        · have hrI : ¬ (r : Int) < xs.length := by omega
          have HBR : Hid _ := hbr
          clear hbr
          go_wp2_with (go_at_call 21; refine (live_any _).mono ?_; rintro e wl ⟨rfl, hbl⟩)
          go_ret
          exact ⟨rfl, go_on (go_on BW2.out HBR.out) hbl⟩
  · have hor : i < 0 ∨ 512 < i := by omega
    unfold setV cellsF
    unfold cellsF at BB
    rcases hor with h1 | h1
    · go_enter Tryd.func5, Tryd.ntmps5
      go_wp2_with (go_at_call 21; refine (live_any _).mono ?_; rintro e wl ⟨rfl, hbl⟩)
      go_ret
      exact ⟨rfl, go_on BB hbl⟩
    · have h0 : ¬ i < 0 := by omega
      go_enter Tryd.func5, Tryd.ntmps5
      go_wp2_with (go_at_call 21; refine (live_any _).mono ?_; rintro e wl ⟨rfl, hbl⟩)
      go_ret
      exact ⟨rfl, go_on BB hbl⟩
/-! ### The row's step -/
theorem own : ownKnob Tryd.prog.godebug = none := by kernel_rfl
def laid1 : List (String × DataW Unit) := [("math/bits.deBruijn64tab", Rows.laid_math_bits_deBruijn64tab)]
def tabZ : List Int := Lib.deBruijn64tab.map fun (z : Nat) => (z : Int)
theorem gTab : Tryd.prog.globalNamed "math/bits.deBruijn64tab" = some 0 := by kernel_rfl
theorem tTab : (Tryd.prog.globals[0]?).map (·.type) = some 60 := by kernel_rfl
theorem of_laid {W : World} (h : laidMetH Tryd.prog laid1 W) : TzTab W := by
  rw [MakeChecks.laidMetH_plain _ _ _ (by kernel_rfl)] at h
  have ht : Lib.TabIs Tryd.prog W "math/bits.deBruijn64tab" .u8 tabZ :=
    Lib.tabIs_of_head (rest := []) gTab tTab Tryd.underlying60 Tryd.underlying5 (by kernel_rfl) (by kernel_rfl) h
  intro j hj
  have := ht.cell gTab j hj
  rw [this]
  have e : tabZ.getD j 0 = ((Lib.deBruijn64tab.getD j 0 : Nat) : Int) := by
    unfold tabZ
    rw [List.getD_eq_getElem?_getD, List.getElem?_map, List.getD_eq_getElem?_getD]
    cases Lib.deBruijn64tab[j]? <;> rfl
  rw [e]
/-- The door's own heap meets the condition. -/
theorem door_met (os : Os) (args : Array Value) : laidMetH Tryd.prog laid1 ((World.doorLaid Tryd.prog 400 os).forCall (fun _ _ => 0) ⟨#[], args, []⟩).memory :=
  laidMetH_of_parts3 (fuel := 8) (laidMet_of_run' 8 (by kernel_rfl) (by kernel_rfl)) (by kernel_rfl) (by kernel_rfl)

set_option maxRecDepth 100000 in
theorem lifted (os : Os) (started : os.Started) (H : Type) (enc : TypeId × Value → H) :
    ReturnsInHanded {} Tryd.checked os 5 .any (fun w args => (Rows.bitsRanksSpec.pre enc Tryd.prog Tryd.f5 [] false w args ∧ laidMetH Tryd.prog laid1 w) ∧ sizedMet enc Tryd.prog Tryd.f5 (OpenSpec.ofChange Rows.bitsRanksSpec) false w args)
      (Rows.bitsRanksSpec.post enc Tryd.prog Tryd.f5 false true false false) := by
  refine returnsInHanded_of_change_and (C := Tryd.checked) (X := fun w _ => laidMetH Tryd.prog laid1 w) (fun _ _ _ hh h => h.of_heap hh) own started (by kernel_rfl) Tryd.func5
    (ChangeSpec.witness_shaped (enc := enc) (C := Tryd.checked) (os := os) (X := fun w _ => laidMetH Tryd.prog laid1 w) false (World.doorLaid Tryd.prog 400 os) #[.agg #[.int .u64 0, .int .u64 0, .int .u64 0, .int .u64 0, .int .u64 0, .int .u64 0, .int .u64 0, .int .u64 0], .int .i64 0] 8 rfl (World.shaped_of_RefB (by kernel_rfl) (by kernel_rfl)) (by kernel_rfl) (by kernel_rfl) (by kernel_rfl) (door_met os _)) ?_
  intro W base args ds gs before hval0 hW _ _ hL _
  have hval : ∀ (j : Nat) t v, Tryd.f5.params[j]? = some t → args[j]? = some v → Value.okWide Tryd.prog W .any base t v := hval0
  have hW' := hW
  obtain ⟨p, q, hA0, hV, rfl, hfz, hnd⟩ := hW
  have hA : DataW.TrodAll enc Tryd.prog W 0 (fun _ => true) true Tryd.f5.params.toList args.toList ds p := hA0
  rw [Tryd.params5] at hA hval
  obtain ⟨v0, vs0, d0, ds0, p0, q0, hargs, rfl, rfl, h0, r0⟩ := trodAll_cons hA
  obtain ⟨v1, vs1, d1, ds1, p1, q1, rfl, rfl, rfl, h1, r1⟩ := trodAll_cons r0
  obtain ⟨rfl, rfl, rfl⟩ := trodAll_nil r1
  obtain rfl : args = #[v0, v1] := by cases args; simp_all
  obtain ⟨rfl, rfl⟩ := trodVars_none hV
  obtain ⟨a0, rfl, rfl, rfl, w0⟩ := open_set (hval 0 25 v0 rfl rfl) h0
  obtain ⟨a1, rfl, rfl, rfl, w1⟩ := open_int Tryd.underlying3 (hval 1 3 v1 rfl rfl) h1
  have hTz := of_laid hL
  clear hA0 hval0
  refine (walk a0 a1 w0 w1 W hTz).mono fun e W' ⟨he, bel⟩ => ?_
  subst he
  exact ⟨_, rfl, _, _, _, [], _, [], hW', trodAll_mk1 (shut_bool Tryd.underlying4 _), (trodAll_cons_mk (shut_set a0) (trodAll_cons_mk (shut_int Tryd.underlying3 w1) trodAll_mk0)), rfl, bel.frame _, fun h => by cases h⟩

theorem over : Rows.BitsRanksSaid :=
  OpenClaim.holds_of_wide 5 Tryd.f5 rfl rfl rfl rfl rfl rfl rfl ⟨rfl, rfl, rfl, rfl, rfl⟩ rfl rfl rfl rfl rfl (by kernel_rfl) Tryd.func5 (by kernel_rfl)
    (of_decide_eq_true (by kernel_rfl)) (by unfold Func.isWrapper; first | (rw [if_pos (by decide +kernel)]; kernel_rfl) | (rw [if_neg (by decide +kernel)]; exact ⟨rfl, rfl⟩))
    (fun os started H enc _ => lifted os started H enc)

theorem card : Rows.BitsRanksCardSaid :=
  Claim7.holds_tied_plain_at .later [] [.data] true (true, "07b0b13ee0e77904397bf8dfe0a9dde0cd5ec42efe4742bf8e06f59086ada953") false
    over (fun _ h => by cases h) (by kernel_rfl) (fun _ h => by cases h) bitsRanks_row_tie rfl ⟨rfl, rfl⟩ (by kernel_rfl) rfl
    (fun f fn hf hfn => by
      obtain rfl : f = 5 := Option.some.inj ((show Tryd.prog.funcNamed "eggbox/eggboxlaw02.BitsRanks" = some 5 by kernel_rfl).symm.trans hf) |>.symm
      obtain rfl : fn = Tryd.f5 := (Option.some.inj (Tryd.func5.symm.trans hfn)).symm
      exact ⟨by kernel_rfl, fun j t ht => by
        rw [Tryd.params5] at ht
        have hm : t ∈ [25, 3] := by simpa using Array.mem_of_getElem? ht
        have hall : ([25, 3].all fun u => !Tryd.prog.wantsStandIn u) = true := by kernel_rfl
        exact (show Tryd.prog.wantsStandIn t = false by simpa using List.all_eq_true.1 hall t hm)⟩)
    (by kernel_rfl)

end Go.Proofs.YthjkfpgocidpeaaDoor.bitsRanks
namespace Go.Proofs.YthjkfpgocidpeaaDoor
/-- The given statement. -/
theorem bitsRanks_holds : Rows.BitsRanksCardSaid := bitsRanks.card
end Go.Proofs.YthjkfpgocidpeaaDoor
