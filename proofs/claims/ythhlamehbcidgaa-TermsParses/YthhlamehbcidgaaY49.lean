/- The document's reader: blanks, next, take, begins. -/
import Derived.Test.YthhlamehbcidgaaY33
import Derived.Test.YthhlamehbcidgaaY37
namespace Go.Proofs.Ythhlamehbcidgaa
open Go Go.RowKit Go.Lib
set_option linter.unusedVariables false

/-- The document's reader in memory. -/
structure DD (w : World) (rb : Nat) (s : ByteArray) (i : Nat) (bad : Bool) : Prop where
  box : w.heap[rb]? = some (.cells #[.string s, .int .i64 (i : Nat), .bool bad] 76 (0, 0))
  le : i ≤ s.size
abbrev OR (rb : Nat) (w w' : World) : Prop := Only (fun b => b = rb) w w'
theorem DD.lt {w : World} {rb : Nat} {s : ByteArray} {i : Nat} {bad : Bool} (h : DD w rb s i bad) : rb < w.heap.size := (Array.getElem?_eq_some_iff.1 h.box).1
theorem DD.below {w w' : World} {rb : Nat} {s : ByteArray} {i : Nat} {bad : Bool} (h : DD w rb s i bad) (hb : Below w.heap.size w w') : DD w' rb s i bad := ⟨(hb.block _ h.lt).trans h.box, h.le⟩
theorem DD.move {w : World} {rb : Nat} {s : ByteArray} {i j : Nat} {bad : Bool} (h : DD w rb s i bad) (hj : j ≤ s.size) : DD (w.setCell ⟨rb, 1, none⟩ (.int .i64 (j : Nat))) rb s j bad := ⟨heap_set h.box, hj⟩
theorem DD.spoilt {w : World} {rb : Nat} {s : ByteArray} {i : Nat} {bad : Bool} (h : DD w rb s i bad) : DD (w.setCell ⟨rb, 2, none⟩ (.bool true)) rb s i true := ⟨heap_set h.box, h.le⟩
theorem or_set {w : World} {rb o : Nat} {x : Value} : OR rb w (w.setCell ⟨rb, o, none⟩ x) := (Only.of (Below.refl _ _)).set rfl
theorem or_drewN {w : World} {rb nq : Nat} : OR rb w (w.drewN nq) := Only.of ⟨(Below.refl _ _ : Below w.heap.size w w).os, (Below.refl _ _ : Below w.heap.size w w).tape, (Below.refl _ _ : Below w.heap.size w w).output, (Below.refl _ _ : Below w.heap.size w w).size, (Below.refl _ _ : Below w.heap.size w w).block⟩
theorem dd_drewN {w : World} {rb nq i : Nat} {s : ByteArray} {bad : Bool} (h : DD w rb s i bad) : DD (w.drewN nq) rb s i bad := ⟨h.box, h.le⟩
theorem seesB_isB (s : ByteArray) (c : UInt8) (i : Nat) : seesB s ⟨#[c]⟩ i = isB s c.toNat i := by
  unfold seesB isB
  cases s.data.toList[i]? with
  | none => rfl
  | some x =>
    show decide (0 ≤ Lib.indexByte [c] x) = (x.toNat == c.toNat)
    by_cases h : x = c
    · subst h
      simp [Lib.indexByte]
    · have h2 : x.toNat ≠ c.toNat := fun e => h (UInt8.toNat_inj.1 e)
      rw [beq_eq_false_iff_ne.2 h2]
      simp [Lib.indexByte, Ne.symm h]
theorem isB_lt {s : ByteArray} {c i : Nat} (h : i < s.size) : isB s c i = (s[i].toNat == c) := by
  unfold isB
  have q : i < s.data.toList.length := by simpa using h
  rw [List.getElem?_eq_getElem q]
  rfl
theorem isB_end {s : ByteArray} {c i : Nat} (h : ¬ i < s.size) : isB s c i = false := by
  unfold isB
  have q : ¬ i < s.data.toList.length := by simpa using h
  rw [List.getElem?_eq_none (by omega)]

set_option maxHeartbeats 4000000 in
set_option maxRecDepth 100000 in
theorem rblanks_any {w : World} {rb : Nat} {s : ByteArray} {i : Nat} {bad : Bool} (h : DD w rb s i bad) (hs : s.size ≤ 1000) :
    Calls Try.prog 60 #[.pointer (some ⟨rb, 0, none⟩)] w fun e w' => e = .returned (.tuple #[]) ∧ DD w' rb s (skip s i) bad ∧ OR rb w w' := by
  have H : Hid (DD w rb s i bad) := h
  clear h
  go_enter Try.func60, Try.ntmps60
  go_wp2_with fail
  go_loopw [] (fun wr => ∃ j : Nat, DD wr rb s j bad ∧ skip s j = skip s i ∧ OR rb w wr) (fun wr => s.size - (match wr.cell? ⟨rb, 1, none⟩ with | some (.int _ x) => x.toNat | _ => 0))
  case atStart => exact ⟨i, H.out, rfl, Only.of (Below.refl _ _)⟩
  case round =>
    obtain ⟨j, hr, hsk, hO⟩ := hrel
    have HR : Hid (DD wr rb s j bad) := hr
    have HSK : Hid (skip s j = skip s i) := hsk
    have HO : Hid (OR rb w wr) := hO
    have t0 : wr.cell? ⟨rb, 0, none⟩ = some (.string s) := cell_at hr.box rfl
    have t1 : wr.cell? ⟨rb, 1, none⟩ = some (.int .i64 (j : Nat)) := cell_at hr.box rfl
    have tf : ∀ j, wr.frozen? ⟨rb, j, none⟩ = false := fun j => froz_of hr.box
    have hw1 : IntKind.i64.wrap ((j : Int) + 1) = ((j + 1 : Nat) : Int) := by have := hr.le; rw [IntKind.wrap_i64]; omega
    clear hr hsk hO
    by_cases hlt : j < s.size
    · have hlI : (j : Int) < s.size := by omega
      have hld : decide ((j : Int) < s.size) = true := decide_eq_true hlI
      have hsee0 := seesB_isB s 32 j
      rw [isB_lt hlt] at hsee0
      obtain ⟨c, hc⟩ : ∃ c, s[j].toNat = c := ⟨_, rfl⟩
      rw [hc] at hsee0
      by_cases h32 : c = 32
      · have hsee : seesB s ⟨#[32]⟩ j = true := by rw [hsee0, h32]; rfl
        have hcb : ((s[j].toNat : Int) == 32) = true := by rw [hc, h32]; rfl
        have hcd : decide ((s[j].toNat : Int) = 32) = true := by rw [hc, h32]; rfl
        have HN : Hid (∀ nq, DD ((wr.drewN nq).setCell ⟨rb, 1, none⟩ (.int .i64 ((j + 1 : Nat) : Int))) rb s (j + 1) bad ∧ OR rb w ((wr.drewN nq).setCell ⟨rb, 1, none⟩ (.int .i64 ((j + 1 : Nat) : Int)))) := fun nq => ⟨(dd_drewN HR.out).move hlt, HO.out.trans (or_drewN.trans or_set)⟩
        have HS2 : Hid (skip s (j + 1) = skip s i) := by show _ = _; rw [← HSK.out, skip_on hsee]
        have HLT : Hid (j < s.size) := hlt
        clear hsee0 hc h32 hsee
        go_upto_region 0 with fail
        go_quiet (fail)
        go_wp2_with fail
        go_roundw
        case rel => exact ⟨j + 1, (HN.out _).1, HS2.out, (HN.out _).2⟩
        case measure =>
          have m1 : ((wr.drewN nq).setCell ⟨rb, 1, none⟩ (.int .i64 ((j : Int) + 1))).cell? ⟨rb, 1, none⟩ = some (.int .i64 ((j : Int) + 1)) := cell_at (HN.out nq).1.box rfl
          have m0 : wr.cell? ⟨rb, 1, none⟩ = some (.int .i64 (j : Nat)) := t1
          have e1 : ((j : Int) + 1).toNat = j + 1 := by omega
          have e0 : ((j : Nat) : Int).toNat = j := by omega
          simp only [m0, m1, e0, e1]
          exact Nat.sub_lt_sub_left hlt (Nat.lt_succ_self j)
      · have hsee : ¬ seesB s ⟨#[32]⟩ j = true := by rw [hsee0, beq_eq_false_iff_ne.2 (by show ¬ c = 32; exact h32)]; simp
        have hcI : ¬ (s[j].toNat : Int) = 32 := by rw [hc]; omega
        have hcb : ((s[j].toNat : Int) == 32) = false := beq_eq_false_iff_ne.2 hcI
        have hcd : decide ((s[j].toNat : Int) = 32) = false := decide_eq_false hcI
        have HS2 : Hid (skip s i = j) := by show _ = _; rw [← HSK.out, skip_end hsee]
        clear hsee0 hc h32 hsee
        go_upto_region 0 with fail
        go_quiet (fail)
        go_wp2_with fail
        first
          | go_end0
          | skip
        refine ⟨rfl, ?_, HO.out.trans or_drewN⟩
        rw [HS2.out]
        exact dd_drewN HR.out
    · have hlI : ¬ (j : Int) < s.size := by omega
      have hld : decide ((j : Int) < s.size) = false := decide_eq_false hlI
      have hsee : ¬ seesB s ⟨#[32]⟩ j = true := by rw [seesB_end hlt]; simp
      have HS2 : Hid (skip s i = j) := by show _ = _; rw [← HSK.out, skip_end hsee]
      clear hsee
      go_upto_region 0 with fail
      go_quiet (fail)
      go_wp2_with fail
      first
        | go_end0
        | skip
      refine ⟨rfl, ?_, HO.out.trans or_drewN⟩
      rw [HS2.out]
      exact dd_drewN HR.out

/-- The byte at the place behind the blanks; 0: the end. -/
def nxB (s : ByteArray) (i : Nat) : Nat := if skip s i = s.size then 0 else byteN s (skip s i)
theorem nxB_lt (s : ByteArray) (i : Nat) : nxB s i < 256 := by
  unfold nxB byteN
  split
  · omega
  · split
    · exact UInt8.toNat_lt _
    · omega

set_option maxHeartbeats 4000000 in
set_option maxRecDepth 100000 in
theorem rnext_any {w : World} {rb : Nat} {s : ByteArray} {i : Nat} {bad : Bool} (h : DD w rb s i bad) (hs : s.size ≤ 1000) :
    Calls Try.prog 31 #[.pointer (some ⟨rb, 0, none⟩)] w fun e w' => e = .returned (.int .u8 (nxB s i : Nat)) ∧ DD w' rb s (skip s i) bad ∧ OR rb w w' := by
  have hsk := skip_le (s := s) _ i rfl h.le
  obtain ⟨j, hj⟩ : ∃ j, skip s i = j := ⟨_, rfl⟩
  have HBL : Hid (Calls Try.prog 60 #[.pointer (some ⟨rb, 0, none⟩)] w fun e w' => e = .returned (.tuple #[]) ∧ DD w' rb s j bad ∧ OR rb w w') := by
    have := rblanks_any h hs
    rw [hj] at this
    exact this
  obtain ⟨b, hbn⟩ : ∃ b, nxB s i = b := ⟨_, rfl⟩
  have HNB : Hid (b = if j = s.size then 0 else byteN s j) := by show _ = _; rw [← hbn]; unfold nxB; rw [hj]
  rw [hj] at hsk
  rw [hj, hbn]
  clear h hj hbn
  go_enter Try.func31, Try.ntmps31
  go_wp2_with fail
  refine Calls.mono HBL.out ?_
  rintro e w1 ⟨rfl, h1, ho1⟩
  have H1 : Hid (DD w1 rb s j bad) := h1
  have HO : Hid (OR rb w w1) := ho1
  have t0 : w1.cell? ⟨rb, 0, none⟩ = some (.string s) := cell_at h1.box rfl
  have t1 : w1.cell? ⟨rb, 1, none⟩ = some (.int .i64 (j : Nat)) := cell_at h1.box rfl
  clear h1 ho1
  by_cases hend : j = s.size
  · have hnx : Hid (b = 0) := by show _ = _; rw [HNB.out, if_pos hend]
    have hneb : ((j : Int) == (s.size : Int)) = true := by rw [hend]; simp
    have hned : decide ((j : Int) = (s.size : Int)) = true := by rw [hend]; simp
    have hjI : (j : Int) = (s.size : Int) := by omega
    clear hend
    go_upto_region 2 with fail
    go_quiet (fail)
    go_wp2_with fail
    go_ret
    exact ⟨by rw [hnx.out]; rfl, dd_drewN H1.out, HO.out.trans or_drewN⟩
  · have hlt : j < s.size := by omega
    have hnx : Hid (b = s[j].toNat) := by show _ = _; rw [HNB.out, if_neg hend, byteN_at hlt]
    have hneI : ¬ (j : Int) = (s.size : Int) := by omega
    have hneb : ((j : Int) == (s.size : Int)) = false := beq_eq_false_iff_ne.2 hneI
    have hned : decide ((j : Int) = (s.size : Int)) = false := decide_eq_false hneI
    have hlI : (j : Int) < s.size := by omega
    clear hend hsk
    go_upto_region 2 with fail
    go_quiet (fail)
    go_upto_region 4 with fail
    go_quiet (fail)
    go_wp2_with fail
    go_ret
    exact ⟨by rw [hnx.out]; rfl, dd_drewN (dd_drewN H1.out), HO.out.trans (or_drewN.trans or_drewN)⟩

/-- What take leaves. -/
def TkD (w : World) (rb : Nat) (s : ByteArray) (i c : Nat) (w' : World) : Prop := DD w' rb s (if isB s c i = true then i + 1 else i) (if isB s c i = true then false else true) ∧ OR rb w w'

set_option maxHeartbeats 4000000 in
set_option maxRecDepth 100000 in
theorem rtake_any {w : World} {rb : Nat} {s : ByteArray} {i : Nat} (h : DD w rb s i false) (hs : s.size ≤ 1000) (c : Nat) :
    Calls Try.prog 32 #[.pointer (some ⟨rb, 0, none⟩), .int .u8 (c : Nat)] w fun e w' => e = .returned (.tuple #[]) ∧ TkD w rb s i c w' := by
  have H : Hid (DD w rb s i false) := h
  have t0 : w.cell? ⟨rb, 0, none⟩ = some (.string s) := cell_at h.box rfl
  have t1 : w.cell? ⟨rb, 1, none⟩ = some (.int .i64 (i : Nat)) := cell_at h.box rfl
  have t2 : w.cell? ⟨rb, 2, none⟩ = some (.bool false) := cell_at h.box rfl
  have tf : ∀ j, w.frozen? ⟨rb, j, none⟩ = false := fun j => froz_of h.box
  have hw1 : IntKind.i64.wrap ((i : Int) + 1) = ((i + 1 : Nat) : Int) := by have := h.le; rw [IntKind.wrap_i64]; omega
  have hle := h.le
  clear h
  by_cases hlt : i < s.size
  · have hneI : ¬ (i : Int) = (s.size : Int) := by omega
    have hneb : ((i : Int) == (s.size : Int)) = false := beq_eq_false_iff_ne.2 hneI
    have hned : decide ((i : Int) = (s.size : Int)) = false := decide_eq_false hneI
    have hlI : (i : Int) < s.size := by omega
    have hisb := isB_lt (c := c) hlt
    by_cases hc : s[i].toNat = c
    · have hq : isB s c i = true := by rw [hisb]; exact beq_iff_eq.2 hc
      have HQ : Hid (isB s c i = true) := hq
      have hcI : (s[i].toNat : Int) = (c : Int) := by omega
      have hcb : ((s[i].toNat : Int) != (c : Int)) = false := by rw [hcI]; simp
      have hcd : decide ((s[i].toNat : Int) ≠ (c : Int)) = false := by rw [hcI]; simp
      have HLT : Hid (i < s.size) := hlt
      clear hisb hq hc
      go_enter Try.func32, Try.ntmps32
      go_upto_region 1 with fail
      go_quiet (fail)
      go_wp2_with fail
      first
        | go_end0
        | skip
      refine ⟨rfl, ?_⟩
      unfold TkD
      rw [if_pos HQ.out, if_pos HQ.out]
      exact ⟨(dd_drewN H.out).move HLT.out, or_drewN.trans or_set⟩
    · have hq : ¬ isB s c i = true := by rw [hisb]; simpa using hc
      have HQ : Hid (¬ isB s c i = true) := hq
      have hcI : ¬ (s[i].toNat : Int) = (c : Int) := by omega
      have hcb : ((s[i].toNat : Int) != (c : Int)) = true := by rw [bne_iff_ne]; exact hcI
      have hcd : decide ((s[i].toNat : Int) ≠ (c : Int)) = true := decide_eq_true hcI
      clear hisb hq hc
      go_enter Try.func32, Try.ntmps32
      go_upto_region 1 with fail
      go_quiet (fail)
      go_wp2_with fail
      (try simp only [Exit.inBlock, Exit.then]); refine bodyPost_ret (results_none rfl _ _ _) rfl ?_
      refine ⟨rfl, ?_⟩
      unfold TkD
      rw [if_neg HQ.out, if_neg HQ.out]
      exact ⟨(dd_drewN H.out).spoilt, or_drewN.trans or_set⟩
  · have he : i = s.size := by omega
    have hq : ¬ isB s c i = true := by rw [isB_end hlt]; simp
    have HQ : Hid (¬ isB s c i = true) := hq
    have hneb : ((i : Int) == (s.size : Int)) = true := by rw [he]; simp
    have hned : decide ((i : Int) = (s.size : Int)) = true := by rw [he]; simp
    clear hq he
    go_enter Try.func32, Try.ntmps32
    go_upto_region 1 with fail
    go_quiet (fail)
    go_wp2_with fail
    (try simp only [Exit.inBlock, Exit.then]); refine bodyPost_ret (results_none rfl _ _ _) rfl ?_
    refine ⟨rfl, ?_⟩
    unfold TkD
    rw [if_neg HQ.out, if_neg HQ.out]
    exact ⟨(dd_drewN H.out).spoilt, or_drewN.trans or_set⟩

/-- May a power begin with it? -/
def bgB (c : Nat) : Bool := (decide (0 ≤ plI c) && decide (c ≠ 0)) || (c == 49 || c == 40)

set_option maxHeartbeats 4000000 in
set_option maxRecDepth 100000 in
theorem rbegins_any (c : Nat) (hc : c < 256) (w : World) : Calls Try.prog 59 #[.int .u8 (c : Nat)] w fun e w' => e = .returned (.bool (bgB c)) ∧ w = w' := by
  have HP : Hid (∀ y, Calls Try.prog 89 #[.int .u8 (c : Nat)] y fun e w' => e = .returned (.int .i64 (plI c)) ∧ y = w') := fun y => rplace_any c hc y
  have HBG : Hid (bgB c = ((decide (0 ≤ plI c) && decide (c ≠ 0)) || (c == 49 || c == 40))) := rfl
  obtain ⟨x, hx⟩ : ∃ x, plI c = x := ⟨_, rfl⟩
  rw [hx] at HP HBG
  obtain ⟨r, hr⟩ : ∃ r, bgB c = r := ⟨_, rfl⟩
  rw [hr] at HBG ⊢
  clear hx hr hc
  have e49 : ((c : Int) == 49) = (c == 49) := by
    by_cases h : c = 49
    · subst h; rfl
    · rw [beq_eq_false_iff_ne.2 h, beq_eq_false_iff_ne.2 (by omega)]
  have e40 : ((c : Int) == 40) = (c == 40) := by
    by_cases h : c = 40
    · subst h; rfl
    · rw [beq_eq_false_iff_ne.2 h, beq_eq_false_iff_ne.2 (by omega)]
  by_cases h0 : 0 ≤ x
  · have d0 : decide (0 ≤ x) = true := decide_eq_true h0
    by_cases hz : c = 0
    · subst hz
      have HR : Hid (r = false) := by show _ = _; rw [HBG.out]; simp
      clear e49 e40
      go_enter Try.func59, Try.ntmps59
      go_wp2_with (go_at_call 89; refine (HP.out _).mono ?_; rintro e w1 ⟨rfl, rfl⟩)
      go_ret
      exact ⟨by rw [HR.out]; rfl, rfl⟩
    · have HR : Hid (r = true) := by show _ = _; rw [HBG.out, d0, decide_eq_true hz]; rfl
      have hzI : ¬ (c : Int) = 0 := by omega
      have hzb : ((c : Int) != 0) = true := by rw [bne_iff_ne]; exact hzI
      have hzd : decide ((c : Int) ≠ 0) = true := decide_eq_true hzI
      go_enter Try.func59, Try.ntmps59
      go_wp2_with (go_at_call 89; refine (HP.out _).mono ?_; rintro e w1 ⟨rfl, rfl⟩)
      go_ret
      exact ⟨by rw [HR.out]; rfl, rfl⟩
  · have d0 : decide (0 ≤ x) = false := decide_eq_false h0
    by_cases h1 : c = 49
    · subst h1
      have HR : Hid (r = true) := by show _ = _; rw [HBG.out, d0]; rfl
      clear e49 e40
      go_enter Try.func59, Try.ntmps59
      go_wp2_with (go_at_call 89; refine (HP.out _).mono ?_; rintro e w1 ⟨rfl, rfl⟩)
      go_ret
      exact ⟨by rw [HR.out]; rfl, rfl⟩
    · have h1I : ¬ (c : Int) = 49 := by omega
      have h1b : ((c : Int) == 49) = false := beq_eq_false_iff_ne.2 h1I
      have h1d : decide ((c : Int) = 49) = false := decide_eq_false h1I
      have HR : Hid (r = (c == 40)) := by show _ = _; rw [HBG.out, d0, beq_eq_false_iff_ne.2 h1]; rfl
      have HE : Hid (((c : Int) == 40) = (c == 40)) := e40
      clear e49 e40
      go_enter Try.func59, Try.ntmps59
      go_wp2_with (go_at_call 89; refine (HP.out _).mono ?_; rintro e w1 ⟨rfl, rfl⟩)
      go_ret
      exact ⟨by rw [HR.out, ← HE.out]; rfl, rfl⟩
end Go.Proofs.Ythhlamehbcidgaa
