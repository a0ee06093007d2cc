/- terms.Print: the closure that goes through a side. -/
import Derived.Test.YthhlamehbcidgaaY12
namespace Go.Proofs.Ythhlamehbcidgaa
open Go Go.RowKit Go.Lib
set_option linter.unusedVariables false

/-- The piece that ends at n, and where it begins. -/
def nxP (L : Sg) : Nat → Nat → Option (Pc × Nat)
  | 0, _ => none
  | f + 1, n => if n = 0 then none
    else if (L.getD (n - 1) (0, 0)).1 = 1 then some ((⟨#[49]⟩, 1), n - 1)
    else if (L.getD (n - 1) (0, 0)).1 = 2 then some ((⟨#[UInt8.ofNat (L.getD (n - 1) (0, 0)).2]⟩, 2), n - 1)
    else if (L.getD (n - 1) (0, 0)).1 = 4 then (match nxP L f (n - 1) with
      | none => none
      | some (p, m) => some ((brP p ++ bOm, 4), m))
    else (match nxP L f (n - 1) with
      | none => none
      | some (q, m2) => (match nxP L f m2 with
        | none => none
        | some (p, m1) => some ((p.1 ++ brP q, 3), m1)))
theorem nxP_size (L : Sg) : ∀ (f n : Nat) (p : Pc) (m : Nat), nxP L f n = some (p, m) → m < n ∧ p.1.size ≤ 5 * (n - m)
  | 0, n, p, m, h => by simp [nxP] at h
  | f + 1, n, p, m, h => by
    rw [nxP] at h
    split at h
    · cases h
    rename_i h0
    split at h
    · simp only [Option.some.injEq, Prod.mk.injEq] at h
      obtain ⟨rfl, rfl⟩ := h
      have h1 : (⟨#[49]⟩ : ByteArray).size = 1 := rfl
      exact ⟨by omega, by show (⟨#[49]⟩ : ByteArray).size ≤ _; omega⟩
    split at h
    · simp only [Option.some.injEq, Prod.mk.injEq] at h
      obtain ⟨rfl, rfl⟩ := h
      have h1 : (⟨#[UInt8.ofNat (L.getD (n - 1) (0, 0)).2]⟩ : ByteArray).size = 1 := rfl
      exact ⟨by omega, by show (⟨#[UInt8.ofNat (L.getD (n - 1) (0, 0)).2]⟩ : ByteArray).size ≤ _; omega⟩
    split at h
    · split at h
      · cases h
      rename_i q m2 hq
      simp only [Option.some.injEq, Prod.mk.injEq] at h
      obtain ⟨rfl, rfl⟩ := h
      have h1 := nxP_size L f _ _ _ hq
      have h2 := brP_size q
      have h3 : bOm.size = 2 := rfl
      refine ⟨by omega, ?_⟩
      show (brP q ++ bOm).size ≤ _
      rw [ByteArray.size_append]
      omega
    · split at h
      · cases h
      rename_i q m2 hq
      split at h
      · cases h
      rename_i p2 m3 hp
      simp only [Option.some.injEq, Prod.mk.injEq] at h
      obtain ⟨rfl, rfl⟩ := h
      have h1 := nxP_size L f _ _ _ hq
      have h2 := brP_size q
      have h3 := nxP_size L f _ _ _ hp
      refine ⟨by omega, ?_⟩
      show (p2.1 ++ brP q).size ≤ _
      rw [ByteArray.size_append]
      omega

/-- What the closure leans on. -/
structure NS (w0 w : World) (F SB MB NX : Nat) (v : Value) (L : Sg) (n : Nat) : Prop where
  f : w.heap[F]? = some (.cells #[.int .i64 (n : Nat)] 3 (0, 0))
  sc : w.cell? ⟨SB, 0, none⟩ = some v
  m0 : w.cell? ⟨MB, 0, none⟩ = some (.func (Fn.func 61) #[] #[])
  m1 : w.cell? ⟨MB, 1, none⟩ = some (.func (Fn.func 62) #[] #[])
  m2 : w.cell? ⟨MB, 2, none⟩ = some (.func (Fn.func 63) #[] #[])
  m3 : w.cell? ⟨MB, 3, none⟩ = some (.func (Fn.func 65) #[] #[])
  xc : w.cell? ⟨NX, 0, none⟩ = some (.func (Fn.func 101) #[] #[.pointer (some ⟨F, 0, none⟩), .pointer (some ⟨SB, 0, none⟩), .pointer (some ⟨MB, 0, none⟩), .pointer (some ⟨NX, 0, none⟩)])
  sl : SB < w.heap.size
  ml : MB < w.heap.size
  xl : NX < w.heap.size
  ne : SB ≠ F ∧ MB ≠ F ∧ NX ≠ F
  b : Below w0.heap.size w0 w
  lo : w0.heap.size ≤ F
  r : SgR w0 v (intS L)
  le : n ≤ L.length
theorem NS.fl {w0 w : World} {F SB MB NX : Nat} {v : Value} {L : Sg} {n : Nat} (h : NS w0 w F SB MB NX v L n) : F < w.heap.size := (Array.getElem?_eq_some_iff.1 h.f).1
theorem NS.call {w0 w w' : World} {F SB MB NX : Nat} {v : Value} {L : Sg} {n : Nat} (h : NS w0 w F SB MB NX v L n) (hb : Below w.heap.size w w') : NS w0 w' F SB MB NX v L n :=
  ⟨(hb.block _ h.fl).trans h.f, by rw [below_cell hb h.sl]; exact h.sc, by rw [below_cell hb h.ml]; exact h.m0, by rw [below_cell hb h.ml]; exact h.m1, by rw [below_cell hb h.ml]; exact h.m2, by rw [below_cell hb h.ml]; exact h.m3, by rw [below_cell hb h.xl]; exact h.xc, Nat.lt_of_lt_of_le h.sl hb.size, Nat.lt_of_lt_of_le h.ml hb.size, Nat.lt_of_lt_of_le h.xl hb.size, h.ne, h.b.trans (hb.mono h.b.size), h.lo, h.r, h.le⟩
theorem cell_other {w : World} {b c j o : Nat} {v : Value} (h : c ≠ b) : (w.setCell ⟨b, j, none⟩ v).cell? ⟨c, o, none⟩ = w.cell? ⟨c, o, none⟩ := World.cell?_of_block (heap_set_other h)
theorem NS.step {w0 w : World} {F SB MB NX : Nat} {v : Value} {L : Sg} {n m : Nat} (h : NS w0 w F SB MB NX v L n) (hm : m ≤ L.length) : NS w0 (w.setCell ⟨F, 0, none⟩ (.int .i64 (m : Nat))) F SB MB NX v L m :=
  ⟨heap_set h.f, by rw [cell_other h.ne.1]; exact h.sc, by rw [cell_other h.ne.2.1]; exact h.m0, by rw [cell_other h.ne.2.1]; exact h.m1, by rw [cell_other h.ne.2.1]; exact h.m2, by rw [cell_other h.ne.2.1]; exact h.m3, by rw [cell_other h.ne.2.2]; exact h.xc, by have := h.sl; simpa [World.setCell] using this, by have := h.ml; simpa [World.setCell] using this, by have := h.xl; simpa [World.setCell] using this, h.ne, h.b.setCell (p := ⟨F, 0, none⟩) h.lo _, h.lo, h.r, hm⟩
/-- A box that isn't one of theirs is written. -/
theorem NS.set2 {w0 w w' : World} {F SB MB NX A : Nat} {v : Value} {L : Sg} {n : Nat} (h : NS w0 w F SB MB NX v L n) (hA : F < A ∧ SB < A ∧ MB < A ∧ NX < A) (hn : ∀ b, b ≠ A → w'.heap[b]? = w.heap[b]?) (hs : w.heap.size ≤ w'.heap.size) (h1 : w'.os = w.os) (h2 : w'.tape = w.tape) (h3 : w'.output = w.output) : NS w0 w' F SB MB NX v L n := by
  have hc : ∀ c o, c ≠ A → w'.cell? ⟨c, o, none⟩ = w.cell? ⟨c, o, none⟩ := fun c o hc => World.cell?_of_block (hn c hc)
  have hlo := h.lo
  refine ⟨(hn F (by omega)).trans h.f, by rw [hc _ _ (by omega)]; exact h.sc, by rw [hc _ _ (by omega)]; exact h.m0, by rw [hc _ _ (by omega)]; exact h.m1, by rw [hc _ _ (by omega)]; exact h.m2, by rw [hc _ _ (by omega)]; exact h.m3, by rw [hc _ _ (by omega)]; exact h.xc, Nat.lt_of_lt_of_le h.sl hs, Nat.lt_of_lt_of_le h.ml hs, Nat.lt_of_lt_of_le h.xl hs, h.ne, ⟨h1.trans h.b.os, h2.trans h.b.tape, h3.trans h.b.output, Nat.le_trans h.b.size hs, fun k hk => (hn k (by omega)).trans (h.b.block k hk)⟩, h.lo, h.r, h.le⟩

def NxC (L : Sg) (f : Nat) : Prop := ∀ (w0 w : World) (F SB MB NX : Nat) (v : Value) (n : Nat) (p : Pc) (m : Nat), NS w0 w F SB MB NX v L n → nxP L f n = some (p, m) →
  Calls Try.prog 101 #[.pointer (some ⟨F, 0, none⟩), .pointer (some ⟨SB, 0, none⟩), .pointer (some ⟨MB, 0, none⟩), .pointer (some ⟨NX, 0, none⟩)] w fun e w' => e = .returned (pcV p) ∧ NS w0 w' F SB MB NX v L m ∧ Only (fun b => b = F) w w'

set_option maxHeartbeats 8000000 in
set_option maxRecDepth 100000 in
theorem next_ok (L : Sg) (hL : L.length ≤ 400) : ∀ f, NxC L f
  | 0 => fun w0 w F SB MB NX v n p m h hr => by simp [nxP] at hr
  | f + 1 => by
    have IH : Hid (NxC L f) := next_ok L hL f
    intro w0 w F SB MB NX v n p m h hr
    have hmn := nxP_size L (f + 1) n p m hr
    rw [nxP] at hr
    split at hr
    · cases hr
    rename_i hn0
    have hle := h.le
    obtain ⟨w1, hw1⟩ : ∃ w1, w1 = (w.setCell ⟨F, 0, none⟩ (.int .i64 ((n - 1 : Nat) : Int))).alloc (.cells #[.string ⟨#[]⟩, .int .i64 0] 104) := ⟨_, rfl⟩
    have HW1 : Hid (w1 = (w.setCell ⟨F, 0, none⟩ (.int .i64 ((n - 1 : Nat) : Int))).alloc (.cells #[.string ⟨#[]⟩, .int .i64 0] 104)) := hw1
    have HFA : Hid (F < w.heap.size) := h.fl
    have HN1 : Hid (NS w0 w1 F SB MB NX v L (n - 1)) := by
      show NS _ _ _ _ _ _ _ _ _
      rw [hw1]
      exact (h.step (by omega)).call (below_new _ _)
    have HWL : Hid (F < w.heap.size ∧ SB < w.heap.size ∧ MB < w.heap.size ∧ NX < w.heap.size) := ⟨h.fl, h.sl, h.ml, h.xl⟩
    have hfl := h.fl
    have HA1 : Hid (w1.heap[w.heap.size]? = some (.cells #[.string ⟨#[]⟩, .int .i64 0] 104 (0, 0))) := by
      show _ = _
      have h0 := heap_last (w.setCell ⟨F, 0, none⟩ (.int .i64 ((n - 1 : Nat) : Int))) (.cells #[.string ⟨#[]⟩, .int .i64 0] 104)
      rw [show (w.setCell ⟨F, 0, none⟩ (.int .i64 ((n - 1 : Nat) : Int))).heap.size = w.heap.size by simp [World.setCell]] at h0
      rw [hw1]
      exact h0
    have HO1 : Hid (Only (fun b => b = F) w w1) := by
      show Only _ _ _
      rw [hw1]
      exact ((Only.of (S := fun b => b = F) (Below.refl w.heap.size w)).set rfl).trans (Only.of (below_new _ _))
    obtain ⟨a, cap, hv, hread⟩ := HN1.out.r.below HN1.out.b
    obtain ⟨g, o, hag, hg, hc1, hc2, hc3⟩ := hread (n - 1) (by simp [intS]; omega)
    have hlen : (intS L).length = L.length := by simp [intS]
    obtain ⟨k, hk⟩ : ∃ k, (L.getD (n - 1) (0, 0)).1 = k := ⟨_, rfl⟩
    obtain ⟨c, hcc⟩ : ∃ c, (L.getD (n - 1) (0, 0)).2 = c := ⟨_, rfl⟩
    have hgd : (intS L).getD (n - 1) (0, 0) = ((k : Int), c) := by
      have h1 : n - 1 < L.length := by omega
      rw [← hk, ← hcc, List.getD_eq_getElem?_getD, List.getD_eq_getElem?_getD, List.getElem?_eq_getElem (by rw [hlen]; exact h1), List.getElem?_eq_getElem h1]
      simp [intS]
    rw [hgd] at hc1 hc2 hc3
    rw [hk, hcc] at hr
    rw [hlen] at hv
    subst hv hag
    simp only at hc1 hc2 hc3
    have HCB : Hid (c < 256) := hc3
    have f0 : w.cell? ⟨F, 0, none⟩ = some (.int .i64 (n : Nat)) := cell_at h.f rfl
    have ff : ∀ j, w.frozen? ⟨F, j, none⟩ = false := fun j => froz_of h.f
    have hwr : IntKind.i64.wrap ((n : Int) - 1) = ((n - 1 : Nat) : Int) := by rw [IntKind.wrap_i64]; omega
    have s0 : w1.cell? ⟨SB, 0, none⟩ = some (.slice (some ⟨g, o, none⟩) L.length cap) := HN1.out.sc
    have fn1 : w1.cell? ⟨F, 0, none⟩ = some (.int .i64 ((n - 1 : Nat) : Int)) := cell_at HN1.out.f rfl
    have hnl : ((n - 1 : Nat) : Int) < L.length := by omega
    obtain ⟨w2, hw2⟩ : ∃ w2, w2 = w1.alloc (.cells #[.int .i64 (k : Nat), .int .u8 (c : Nat)] 81) := ⟨_, rfl⟩
    have HW2 : Hid (w2 = w1.alloc (.cells #[.int .i64 (k : Nat), .int .u8 (c : Nat)] 81)) := hw2
    have hb2 : Below w1.heap.size w1 w2 := by rw [hw2]; exact below_new _ _
    have HN2 : Hid (NS w0 w2 F SB MB NX (.slice (some ⟨g, o, none⟩) L.length cap) L (n - 1)) := HN1.out.call hb2
    have HOW : Hid (Only (fun b => b = F) w w2) := HO1.out.trans (Only.of hb2)
    have HA2 : Hid (w2.heap[w.heap.size]? = some (.cells #[.string ⟨#[]⟩, .int .i64 0] 104 (0, 0))) := (hb2.block _ (Array.getElem?_eq_some_iff.1 HA1.out).1).trans HA1.out
    have HAL : Hid (w.heap.size < w2.heap.size) := (Array.getElem?_eq_some_iff.1 HA2.out).1
    have HFL : Hid (F < w.heap.size) := hfl
    have x0 : w2.cell? ⟨w1.heap.size, 0, none⟩ = some (.int .i64 (k : Nat)) := by rw [hw2]; exact cell_at (heap_last _ _) rfl
    have x1 : w2.cell? ⟨w1.heap.size, 1, none⟩ = some (.int .u8 (c : Nat)) := by rw [hw2]; exact cell_at (heap_last _ _) rfl
    clear hw1 hw2 hb2 h hread hgd HA1 HO1
    go_enter Try.func101, Try.ntmps101
    go_upto_region 2 with fail
    rw [← HW1.out]
    clear f0 ff HW1
    by_cases k1 : k = 1
    · have k1b : ((k : Int) == 1) = true := by rw [k1]; rfl
      have HW2 : Hid (w2 = w1.alloc (.cells #[.int .i64 1, .int .u8 (c : Nat)] 81)) := by have h := HW2.out; rw [k1] at h; exact h
      have k1d : decide ((k : Int) = 1) = true := by rw [k1]; rfl
      rw [if_pos k1] at hr
      simp only [Option.some.injEq, Prod.mk.injEq] at hr
      obtain ⟨rfl, rfl⟩ := hr
      have hm0 := HN2.out.m0
      go_upto_region 3 with fail
      rw [← HW2.out]
      clear s0 fn1 HW2 hc1 hc2
      go_wp2_with fail
      refine (wr1_any w2).mono ?_
      rintro e y2 ⟨rfl, hb⟩
      have HN9 : Hid (NS w0 y2 F SB MB NX (.slice (some ⟨g, o, none⟩) L.length cap) L (n - 1)) := HN2.out.call hb
      have HO9 : Hid (Only (fun b => b = F) w2 y2) := Only.of hb
      have hA9 : y2.heap[w.heap.size]? = some (.cells #[.string ⟨#[]⟩, .int .i64 0] 104 (0, 0)) := (hb.block _ HAL.out).trans HA2.out
      have u0 : y2.cell? ⟨w.heap.size, 0, none⟩ = some (.string ⟨#[]⟩) := cell_at hA9 rfl
      have u1 : y2.cell? ⟨w.heap.size, 1, none⟩ = some (.int .i64 0) := cell_at hA9 rfl
      have uf : ∀ j, y2.frozen? ⟨w.heap.size, j, none⟩ = false := fun j => froz_of hA9
      clear hb
      unfold pcV
      go_wp2_with fail
      have hn9 : ∀ b, b ≠ w.heap.size → ((y2.setCell ⟨w.heap.size, 0, none⟩ (.string (((⟨#[49]⟩ : ByteArray), 1)).1)).setCell ⟨w.heap.size, 1, none⟩ (.int .i64 ((((⟨#[49]⟩ : ByteArray), 1)).2 : Nat))).heap[b]? = y2.heap[b]? := fun b hb => by rw [heap_set_other hb, heap_set_other hb]
      refine bodyPost_ret (results_cell_row rfl _ _ w.heap.size 104 _ (0, 0) _ rfl (heap_set (heap_set hA9)) Try.underlying104 rfl (by rw [Try.info_pc]; rfl)) rfl ⟨rfl, ?_, ?_⟩
      · exact HN9.out.set2 HWL.out hn9 (by simp) rfl rfl rfl
      · exact ⟨((HOW.out.zero.trans (HO9.out.zero.mono (Nat.zero_le _))).setCell (p := ⟨w.heap.size, 0, none⟩) (Nat.zero_le _) _).setCell (p := ⟨w.heap.size, 1, none⟩) (Nat.zero_le _) _, fun b hb hS => (hn9 b (by omega)).trans ((HO9.out.block b (by have := HAL.out; omega) hS).trans (HOW.out.block b hb hS))⟩
    by_cases k2 : k = 2
    · have k1b : ((k : Int) == 1) = false := by rw [k2]; rfl
      have k1d : decide ((k : Int) = 1) = false := by rw [k2]; rfl
      have k2b : ((k : Int) == 2) = true := by rw [k2]; rfl
      have HW2 : Hid (w2 = w1.alloc (.cells #[.int .i64 2, .int .u8 (c : Nat)] 81)) := by have h := HW2.out; rw [k2] at h; exact h
      have k2d : decide ((k : Int) = 2) = true := by rw [k2]; rfl
      rw [if_neg k1, if_pos k2] at hr
      simp only [Option.some.injEq, Prod.mk.injEq] at hr
      obtain ⟨rfl, rfl⟩ := hr
      have hm1 := HN2.out.m1
      go_upto_region 3 with fail
      rw [← HW2.out]
      clear s0 fn1 HW2 hc1 hc2
      go_wp2_with fail
      refine (wr2_any c HCB.out w2).mono ?_
      rintro e y2 ⟨rfl, hb⟩
      have HN9 : Hid (NS w0 y2 F SB MB NX (.slice (some ⟨g, o, none⟩) L.length cap) L (n - 1)) := HN2.out.call hb
      have HO9 : Hid (Only (fun b => b = F) w2 y2) := Only.of hb
      have hA9 : y2.heap[w.heap.size]? = some (.cells #[.string ⟨#[]⟩, .int .i64 0] 104 (0, 0)) := (hb.block _ HAL.out).trans HA2.out
      have u0 : y2.cell? ⟨w.heap.size, 0, none⟩ = some (.string ⟨#[]⟩) := cell_at hA9 rfl
      have u1 : y2.cell? ⟨w.heap.size, 1, none⟩ = some (.int .i64 0) := cell_at hA9 rfl
      have uf : ∀ j, y2.frozen? ⟨w.heap.size, j, none⟩ = false := fun j => froz_of hA9
      clear hb
      unfold pcV
      go_wp2_with fail
      have hn9 : ∀ b, b ≠ w.heap.size → ((y2.setCell ⟨w.heap.size, 0, none⟩ (.string (((⟨#[UInt8.ofNat c]⟩ : ByteArray), 2)).1)).setCell ⟨w.heap.size, 1, none⟩ (.int .i64 ((((⟨#[UInt8.ofNat c]⟩ : ByteArray), 2)).2 : Nat))).heap[b]? = y2.heap[b]? := fun b hb => by rw [heap_set_other hb, heap_set_other hb]
      refine bodyPost_ret (results_cell_row rfl _ _ w.heap.size 104 _ (0, 0) _ rfl (heap_set (heap_set hA9)) Try.underlying104 rfl (by rw [Try.info_pc]; rfl)) rfl ⟨rfl, ?_, ?_⟩
      · exact HN9.out.set2 HWL.out hn9 (by simp) rfl rfl rfl
      · exact ⟨((HOW.out.zero.trans (HO9.out.zero.mono (Nat.zero_le _))).setCell (p := ⟨w.heap.size, 0, none⟩) (Nat.zero_le _) _).setCell (p := ⟨w.heap.size, 1, none⟩) (Nat.zero_le _) _, fun b hb hS => (hn9 b (by omega)).trans ((HO9.out.block b (by have := HAL.out; omega) hS).trans (HOW.out.block b hb hS))⟩
    rw [if_neg k1, if_neg k2] at hr
    have k1b : ((k : Int) == 1) = false := by rw [beq_eq_false_iff_ne]; omega
    have k2b : ((k : Int) == 2) = false := by rw [beq_eq_false_iff_ne]; omega
    have k1d : decide ((k : Int) = 1) = false := decide_eq_false (by omega)
    have k2d : decide ((k : Int) = 2) = false := decide_eq_false (by omega)
    by_cases k4 : k = 4
    · rw [if_pos k4] at hr
      split at hr
      · cases hr
      rename_i p1 m1 hp1
      simp only [Option.some.injEq, Prod.mk.injEq] at hr
      obtain ⟨rfl, rfl⟩ := hr
      have hsz1 : p1.1.size ≤ 1000000 := by have := nxP_size L f _ _ _ hp1; omega
      have k4b : ((k : Int) == 4) = true := by rw [k4]; rfl
      have HW2 : Hid (w2 = w1.alloc (.cells #[.int .i64 4, .int .u8 (c : Nat)] 81)) := by have h := HW2.out; rw [k4] at h; exact h
      have k4d : decide ((k : Int) = 4) = true := by rw [k4]; rfl
      have HNX : Hid (Calls Try.prog 101 #[.pointer (some ⟨F, 0, none⟩), .pointer (some ⟨SB, 0, none⟩), .pointer (some ⟨MB, 0, none⟩), .pointer (some ⟨NX, 0, none⟩)] w2.drew fun e w' => e = .returned (pcV p1) ∧ NS w0 w' F SB MB NX (.slice (some ⟨g, o, none⟩) L.length cap) L m1 ∧ Only (fun b => b = F) w2.drew w') := IH.out w0 w2.drew F SB MB NX _ (n - 1) p1 m1 (HN2.out.call (Below.refl _ _).drew) hp1
      go_upto_region 3 with fail
      rw [← HW2.out]
      clear s0 fn1 HW2 hc1 hc2
      go_upto_region 9 with fail
      refine wp_region_L 5 (fun y => y.cell? ⟨MB, 3, none⟩ = some (.func (Fn.func 65) #[] #[]) ∧ y.cell? ⟨NX, 0, none⟩ = some (.func (Fn.func 101) #[] #[.pointer (some ⟨F, 0, none⟩), .pointer (some ⟨SB, 0, none⟩), .pointer (some ⟨MB, 0, none⟩), .pointer (some ⟨NX, 0, none⟩)])) (by kernel_rfl) ⟨HN2.out.m3, HN2.out.xc⟩ (fun hH0 => ?_)
      refine wpAnyL_take (i := 0) (oi := { dst := some 29, op := Go.Op.fieldAddr 112 (Go.Operand.tmp 2) 3, type := 0, pos := "side.go:111", after := #[], guard := none }) (v := ?_) rfl (by kernel_rfl) (by kernel_rfl) (by decide) (by kernel_rfl) (by kernel_rfl) (by kernel_rfl) (fun _ _ _ h => h) (Or.inl ⟨by rfl, ?_⟩) (by assumption) ?_
      rotate_left
      · intro w' hS; go_simp; (try with_reducible rfl)
      simp only [Act.put, List.setIfInBounds_toArray, List.set_cons_zero, List.set_cons_succ]
      refine wpAnyL_take (i := 1) (oi := { dst := some 30, op := Go.Op.load 110 (Go.Operand.tmp 29), type := 110, pos := "side.go:111", after := #[{ on := 0, ground := Go.Ground.data }], guard := none }) (v := .func (Fn.func 65) #[] #[]) rfl (by kernel_rfl) (by kernel_rfl) (by decide) (by kernel_rfl) (by kernel_rfl) (by kernel_rfl) (fun _ _ _ h => h) (Or.inl ⟨by rfl, ?_⟩) (by assumption) ?_
      · intro w' hS; obtain ⟨z0, z1⟩ := hS; go_simp
      simp only [Act.put, List.setIfInBounds_toArray, List.set_cons_zero, List.set_cons_succ]
      refine wpAnyL_take (i := 2) (oi := { dst := some 31, op := Go.Op.load 105 (Go.Operand.tmp 3), type := 105, pos := "side.go:111", after := #[], guard := none }) (v := .func (Fn.func 101) #[] #[.pointer (some ⟨F, 0, none⟩), .pointer (some ⟨SB, 0, none⟩), .pointer (some ⟨MB, 0, none⟩), .pointer (some ⟨NX, 0, none⟩)]) rfl (by kernel_rfl) (by kernel_rfl) (by decide) (by kernel_rfl) (by kernel_rfl) (by kernel_rfl) (fun _ _ _ h => h) (Or.inl ⟨by rfl, ?_⟩) (by assumption) ?_
      · intro w' hS; obtain ⟨z0, z1⟩ := hS; go_simp
      simp only [Act.put, List.setIfInBounds_toArray, List.set_cons_zero, List.set_cons_succ]
      refine wpAnyL_ready (rs := [3]) (by kernel_rfl) (by simp) ?_
      refine AllReadyL.cons rfl (fun KQ hK => ?_) AllReadyL.nil
      go_simp
      refine Calls.mono HNX.out ?_
      rintro e y1 ⟨rfl, hn1, ho1⟩
      have HN1 : Hid (NS w0 y1 F SB MB NX (.slice (some ⟨g, o, none⟩) L.length cap) L m1) := hn1
      have HO1 : Hid (Only (fun b => b = F) w2 y1) := (Only.of (Below.refl _ _).drew).trans ho1
      have hN : y1.cell? ⟨MB, 3, none⟩ = some (.func (Fn.func 65) #[] #[]) ∧ y1.cell? ⟨NX, 0, none⟩ = some (.func (Fn.func 101) #[] #[.pointer (some ⟨F, 0, none⟩), .pointer (some ⟨SB, 0, none⟩), .pointer (some ⟨MB, 0, none⟩), .pointer (some ⟨NX, 0, none⟩)]) := ⟨hn1.m3, hn1.xc⟩
      clear hn1 ho1
      go_wp2_with fail
      refine hK.out _ _ hN (fun hH1 => ?_)
      clear hN
      clear hK KQ
      refine wpAnyL_ready (rs := [4]) (by kernel_rfl) (by simp) ?_
      refine AllReadyL.cons rfl (fun KQ hK => ?_) AllReadyL.nil
      go_simp
      refine Calls.mono (wr4_any p1 hsz1 y1) ?_
      rintro e y2 ⟨rfl, hb⟩
      have HN2 : Hid (NS w0 y2 F SB MB NX (.slice (some ⟨g, o, none⟩) L.length cap) L m1) := HN1.out.call hb
      have HO2 : Hid (Only (fun b => b = F) w2 y2) := HO1.out.trans (Only.of hb)
      have hN : y2.cell? ⟨MB, 3, none⟩ = some (.func (Fn.func 65) #[] #[]) ∧ y2.cell? ⟨NX, 0, none⟩ = some (.func (Fn.func 101) #[] #[.pointer (some ⟨F, 0, none⟩), .pointer (some ⟨SB, 0, none⟩), .pointer (some ⟨MB, 0, none⟩), .pointer (some ⟨NX, 0, none⟩)]) := ⟨HN2.out.m3, HN2.out.xc⟩
      clear hb
      unfold pcV
      go_wp2_with fail
      refine hK.out _ _ hN (fun hH2 => ?_)
      clear hN
      clear hK KQ
      refine wpAnyL_ready (rs := [5]) (by kernel_rfl) (by simp) ?_
      refine AllReadyL.last rfl (fun KQ hK => ?_)
      have hA9 : y2.heap[w.heap.size]? = some (.cells #[.string ⟨#[]⟩, .int .i64 0] 104 (0, 0)) := (HO2.out.block _ HAL.out (by have := HFL.out; omega)).trans HA2.out
      have u0 : y2.cell? ⟨w.heap.size, 0, none⟩ = some (.string ⟨#[]⟩) := cell_at hA9 rfl
      have u1 : y2.cell? ⟨w.heap.size, 1, none⟩ = some (.int .i64 0) := cell_at hA9 rfl
      have uf : ∀ j, y2.frozen? ⟨w.heap.size, j, none⟩ = false := fun j => froz_of hA9
      go_simp
      refine hK.out _ _ ?_
      clear hK KQ
      refine wpAnyL_done (by kernel_rfl) ?_ _
      go_wp2_with fail
      have hn9 : ∀ b, b ≠ w.heap.size → ((y2.setCell ⟨w.heap.size, 0, none⟩ (.string ((brP p1 ++ bOm, 4)).1)).setCell ⟨w.heap.size, 1, none⟩ (.int .i64 (((brP p1 ++ bOm, 4)).2 : Nat))).heap[b]? = y2.heap[b]? := fun b hb => by rw [heap_set_other hb, heap_set_other hb]
      refine bodyPost_ret (results_cell_row rfl _ _ w.heap.size 104 _ (0, 0) _ rfl (heap_set (heap_set hA9)) Try.underlying104 rfl (by rw [Try.info_pc]; rfl)) rfl ⟨rfl, ?_, ?_⟩
      · exact HN2.out.set2 HWL.out hn9 (by simp) rfl rfl rfl
      · exact ⟨((HOW.out.zero.trans (HO2.out.zero.mono (Nat.zero_le _))).setCell (p := ⟨w.heap.size, 0, none⟩) (Nat.zero_le _) _).setCell (p := ⟨w.heap.size, 1, none⟩) (Nat.zero_le _) _, fun b hb hS => (hn9 b (by omega)).trans ((HO2.out.block b (by have := HAL.out; omega) hS).trans (HOW.out.block b hb hS))⟩
    · rw [if_neg k4] at hr
      have k4b : ((k : Int) == 4) = false := by rw [beq_eq_false_iff_ne]; omega
      have k4d : decide ((k : Int) = 4) = false := decide_eq_false (by omega)
      split at hr
      · cases hr
      rename_i q m2 hq
      split at hr
      · cases hr
      rename_i p1 m1 hp1
      simp only [Option.some.injEq, Prod.mk.injEq] at hr
      obtain ⟨rfl, rfl⟩ := hr
      have hsz2 : q.1.size ≤ 1000000 := by have := nxP_size L f _ _ _ hq; omega
      have hsz1 : p1.1.size ≤ 1000000 := by have := nxP_size L f _ _ _ hp1; have := nxP_size L f _ _ _ hq; omega
      have HNX : Hid (Calls Try.prog 101 #[.pointer (some ⟨F, 0, none⟩), .pointer (some ⟨SB, 0, none⟩), .pointer (some ⟨MB, 0, none⟩), .pointer (some ⟨NX, 0, none⟩)] w2 fun e w' => e = .returned (pcV q) ∧ NS w0 w' F SB MB NX (.slice (some ⟨g, o, none⟩) L.length cap) L m2 ∧ Only (fun b => b = F) w2 w') := IH.out w0 w2 F SB MB NX _ (n - 1) q m2 HN2.out hq
      have xc2 := HN2.out.xc
      go_upto_region 3 with fail
      rw [← HW2.out]
      clear s0 fn1 HW2 hc1 hc2
      go_wp2_with fail
      refine Calls.mono HNX.out ?_
      rintro e ya ⟨rfl, hna, hoa⟩
      have HNA : Hid (NS w0 ya F SB MB NX (.slice (some ⟨g, o, none⟩) L.length cap) L m2) := hna
      have HOA : Hid (Only (fun b => b = F) w2 ya) := hoa
      clear hna hoa xc2
      obtain ⟨yb, hyb⟩ : ∃ yb, yb = ya.alloc (.cells #[.string q.1, .int .i64 (q.2 : Nat)] 104) := ⟨_, rfl⟩
      have HYB : Hid (yb = ya.alloc (.cells #[.string q.1, .int .i64 (q.2 : Nat)] 104)) := hyb
      have hbb : Below ya.heap.size ya yb := by rw [hyb]; exact below_new _ _
      obtain ⟨Q, hQ⟩ : ∃ Q, ya.heap.size = Q := ⟨_, rfl⟩
      have HNB : Hid (NS w0 yb F SB MB NX (.slice (some ⟨g, o, none⟩) L.length cap) L m2) := HNA.out.call hbb
      have HO2 : Hid (Only (fun b => b = F) w2 yb.drew) := (HOA.out.trans (Only.of hbb)).trans (Only.of (Below.refl _ _).drew)
      have HQ2 : Hid (yb.drew.heap[Q]? = some (.cells #[.string q.1, .int .i64 (q.2 : Nat)] 104 (0, 0))) := by show _ = _; rw [hyb, ← hQ]; exact heap_last _ _
      have HQL : Hid (Q < yb.drew.heap.size) := (Array.getElem?_eq_some_iff.1 HQ2.out).1
      have HQF : Hid (F < Q) := by have h1 := HOA.out.size; have h2 := HAL.out; have h3 := HFL.out; show _ < _; omega
      have HNX2 : Hid (Calls Try.prog 101 #[.pointer (some ⟨F, 0, none⟩), .pointer (some ⟨SB, 0, none⟩), .pointer (some ⟨MB, 0, none⟩), .pointer (some ⟨NX, 0, none⟩)] yb.drew fun e w' => e = .returned (pcV p1) ∧ NS w0 w' F SB MB NX (.slice (some ⟨g, o, none⟩) L.length cap) L m1 ∧ Only (fun b => b = F) yb.drew w') := IH.out w0 yb.drew F SB MB NX _ m2 p1 m1 (HNB.out.call (Below.refl _ _).drew) hp1
      have S0 : yb.drew.cell? ⟨MB, 2, none⟩ = some (.func (Fn.func 63) #[] #[]) ∧ yb.drew.cell? ⟨NX, 0, none⟩ = some (.func (Fn.func 101) #[] #[.pointer (some ⟨F, 0, none⟩), .pointer (some ⟨SB, 0, none⟩), .pointer (some ⟨MB, 0, none⟩), .pointer (some ⟨NX, 0, none⟩)]) ∧ (∀ o, yb.drew.cell? ⟨Q, o, none⟩ = (#[.string q.1, .int .i64 (q.2 : Nat)] : Array Value)[o]?) := ⟨HNB.out.m2, HNB.out.xc, fun o => cell_of_row _ _ _ _ _ _ HQ2.out⟩
      clear hyb hbb
      unfold pcV
      go_upto_region 11 with fail
      rw [← HYB.out]
      refine wp_region_L 6 (fun y => y.cell? ⟨MB, 2, none⟩ = some (.func (Fn.func 63) #[] #[]) ∧ y.cell? ⟨NX, 0, none⟩ = some (.func (Fn.func 101) #[] #[.pointer (some ⟨F, 0, none⟩), .pointer (some ⟨SB, 0, none⟩), .pointer (some ⟨MB, 0, none⟩), .pointer (some ⟨NX, 0, none⟩)]) ∧ (∀ o, y.cell? ⟨Q, o, none⟩ = (#[.string q.1, .int .i64 (q.2 : Nat)] : Array Value)[o]?)) (by kernel_rfl) S0 (fun hH0 => ?_)
      clear S0
      refine wpAnyL_take (i := 0) (oi := { dst := some 36, op := Go.Op.fieldAddr 112 (Go.Operand.tmp 2) 2, type := 0, pos := "side.go:114", after := #[], guard := none }) (v := ?_) rfl (by kernel_rfl) (by kernel_rfl) (by decide) (by kernel_rfl) (by kernel_rfl) (by kernel_rfl) (fun _ _ _ h => h) (Or.inl ⟨by rfl, ?_⟩) (by assumption) ?_
      rotate_left
      · intro w' hS; go_simp; (try with_reducible rfl)
      simp only [Act.put, List.setIfInBounds_toArray, List.set_cons_zero, List.set_cons_succ]
      refine wpAnyL_take (i := 1) (oi := { dst := some 37, op := Go.Op.load 109 (Go.Operand.tmp 36), type := 109, pos := "side.go:114", after := #[{ on := 0, ground := Go.Ground.data }], guard := none }) (v := .func (Fn.func 63) #[] #[]) rfl (by kernel_rfl) (by kernel_rfl) (by decide) (by kernel_rfl) (by kernel_rfl) (by kernel_rfl) (fun _ _ _ h => h) (Or.inl ⟨by rfl, ?_⟩) (by assumption) ?_
      · intro w' hS; obtain ⟨z0, z1, z2⟩ := hS; go_simp
      simp only [Act.put, List.setIfInBounds_toArray, List.set_cons_zero, List.set_cons_succ]
      refine wpAnyL_take (i := 2) (oi := { dst := some 38, op := Go.Op.load 105 (Go.Operand.tmp 3), type := 105, pos := "side.go:114", after := #[], guard := none }) (v := .func (Fn.func 101) #[] #[.pointer (some ⟨F, 0, none⟩), .pointer (some ⟨SB, 0, none⟩), .pointer (some ⟨MB, 0, none⟩), .pointer (some ⟨NX, 0, none⟩)]) rfl (by kernel_rfl) (by kernel_rfl) (by decide) (by kernel_rfl) (by kernel_rfl) (by kernel_rfl) (fun _ _ _ h => h) (Or.inl ⟨by rfl, ?_⟩) (by assumption) ?_
      · intro w' hS; obtain ⟨z0, z1, z2⟩ := hS; go_simp
      simp only [Act.put, List.setIfInBounds_toArray, List.set_cons_zero, List.set_cons_succ]
      refine wpAnyL_take (i := 4) (oi := { dst := some 40, op := Go.Op.load 104 (Go.Operand.tmp 6), type := 104, pos := "side.go:114", after := #[], guard := none }) (v := .agg #[.string q.1, .int .i64 (q.2 : Nat)]) rfl (by kernel_rfl) (by kernel_rfl) (by decide) (by kernel_rfl) (by kernel_rfl) (by kernel_rfl) (fun _ _ _ h => h) (Or.inl ⟨by rfl, ?_⟩) (by assumption) ?_
      · intro w' hS; obtain ⟨z0, z1, z2⟩ := hS; go_simp
      simp only [Act.put, List.setIfInBounds_toArray, List.set_cons_zero, List.set_cons_succ]
      refine wpAnyL_ready (rs := [3]) (by kernel_rfl) (by simp) ?_
      refine AllReadyL.cons rfl (fun KQ hK => ?_) AllReadyL.nil
      go_simp
      refine Calls.mono HNX2.out ?_
      rintro e y3 ⟨rfl, hn3, ho3⟩
      have HN3 : Hid (NS w0 y3 F SB MB NX (.slice (some ⟨g, o, none⟩) L.length cap) L m1) := hn3
      have HO3 : Hid (Only (fun b => b = F) w2 y3) := HO2.out.trans ho3
      have HQ3 : Hid (y3.heap[Q]? = some (.cells #[.string q.1, .int .i64 (q.2 : Nat)] 104 (0, 0))) := (ho3.block _ HQL.out (by have := HQF.out; omega)).trans HQ2.out
      have hN : y3.cell? ⟨MB, 2, none⟩ = some (.func (Fn.func 63) #[] #[]) ∧ y3.cell? ⟨NX, 0, none⟩ = some (.func (Fn.func 101) #[] #[.pointer (some ⟨F, 0, none⟩), .pointer (some ⟨SB, 0, none⟩), .pointer (some ⟨MB, 0, none⟩), .pointer (some ⟨NX, 0, none⟩)]) ∧ (∀ o, y3.cell? ⟨Q, o, none⟩ = (#[.string q.1, .int .i64 (q.2 : Nat)] : Array Value)[o]?) := ⟨hn3.m2, hn3.xc, fun o => cell_of_row _ _ _ _ _ _ HQ3.out⟩
      clear hn3 ho3
      go_wp2_with fail
      refine hK.out _ _ hN (fun hH1 => ?_)
      clear hN
      clear hK KQ
      refine wpAnyL_ready (rs := [5]) (by kernel_rfl) (by simp) ?_
      refine AllReadyL.cons rfl (fun KQ hK => ?_) AllReadyL.nil
      go_simp
      refine Calls.mono (wr3_any p1 q hsz1 hsz2 y3) ?_
      rintro e y4 ⟨rfl, hb⟩
      have HN4 : Hid (NS w0 y4 F SB MB NX (.slice (some ⟨g, o, none⟩) L.length cap) L m1) := HN3.out.call hb
      have HO4 : Hid (Only (fun b => b = F) w2 y4) := HO3.out.trans (Only.of hb)
      have hN : y4.cell? ⟨MB, 2, none⟩ = some (.func (Fn.func 63) #[] #[]) ∧ y4.cell? ⟨NX, 0, none⟩ = some (.func (Fn.func 101) #[] #[.pointer (some ⟨F, 0, none⟩), .pointer (some ⟨SB, 0, none⟩), .pointer (some ⟨MB, 0, none⟩), .pointer (some ⟨NX, 0, none⟩)]) ∧ (∀ o, y4.cell? ⟨Q, o, none⟩ = (#[.string q.1, .int .i64 (q.2 : Nat)] : Array Value)[o]?) := ⟨HN4.out.m2, HN4.out.xc, fun o => cell_of_row _ _ _ _ _ _ ((hb.block _ (Array.getElem?_eq_some_iff.1 HQ3.out).1).trans HQ3.out)⟩
      clear hb
      unfold pcV
      go_wp2_with fail
      refine hK.out _ _ hN (fun hH2 => ?_)
      clear hN
      clear hK KQ
      refine wpAnyL_ready (rs := [6]) (by kernel_rfl) (by simp) ?_
      refine AllReadyL.last rfl (fun KQ hK => ?_)
      have hA9 : y4.heap[w.heap.size]? = some (.cells #[.string ⟨#[]⟩, .int .i64 0] 104 (0, 0)) := (HO4.out.block _ HAL.out (by have := HFL.out; omega)).trans HA2.out
      have u0 : y4.cell? ⟨w.heap.size, 0, none⟩ = some (.string ⟨#[]⟩) := cell_at hA9 rfl
      have u1 : y4.cell? ⟨w.heap.size, 1, none⟩ = some (.int .i64 0) := cell_at hA9 rfl
      have uf : ∀ j, y4.frozen? ⟨w.heap.size, j, none⟩ = false := fun j => froz_of hA9
      go_simp
      refine hK.out _ _ ?_
      clear hK KQ
      refine wpAnyL_done (by kernel_rfl) ?_ _
      go_wp2_with fail
      have hn9 : ∀ b, b ≠ w.heap.size → ((y4.setCell ⟨w.heap.size, 0, none⟩ (.string ((p1.1 ++ brP q, 3)).1)).setCell ⟨w.heap.size, 1, none⟩ (.int .i64 (((p1.1 ++ brP q, 3)).2 : Nat))).heap[b]? = y4.heap[b]? := fun b hb => by rw [heap_set_other hb, heap_set_other hb]
      refine bodyPost_ret (results_cell_row rfl _ _ w.heap.size 104 _ (0, 0) _ rfl (heap_set (heap_set hA9)) Try.underlying104 rfl (by rw [Try.info_pc]; rfl)) rfl ⟨rfl, ?_, ?_⟩
      · exact HN4.out.set2 HWL.out hn9 (by simp) rfl rfl rfl
      · exact ⟨((HOW.out.zero.trans (HO4.out.zero.mono (Nat.zero_le _))).setCell (p := ⟨w.heap.size, 0, none⟩) (Nat.zero_le _) _).setCell (p := ⟨w.heap.size, 1, none⟩) (Nat.zero_le _) _, fun b hb hS => (hn9 b (by omega)).trans ((HO4.out.block b (by have := HAL.out; omega) hS).trans (HOW.out.block b hb hS))⟩
end Go.Proofs.Ythhlamehbcidgaa
