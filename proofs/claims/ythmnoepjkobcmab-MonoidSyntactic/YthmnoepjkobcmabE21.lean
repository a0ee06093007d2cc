/- monoid: Word, element, Element of a monoid that Build made. -/
import Derived.Test.YthmnoepjkobcmabE19
import Derived.Test.YthmnoepjkobcmabE20
import Derived.Lib.OthersKept
namespace Go.Proofs.Ythmnoepjkobcmab
open Go Go.RowKit Go.Lib Go.Maps
set_option linter.unusedVariables false
attribute [-instance] List.instBEq instBEqProd

set_option maxHeartbeats 1000000 in
set_option maxRecDepth 100000 in
theorem mword_ok {w : World} {ob : Nat} {A : Aut} {M : List (List Nat)} {N : List Nat} (h : MO w ob A M N) (i : Nat) (hi : i < M.length) : Calls Try.prog 17 #[.pointer (some ⟨ob, 0, none⟩), .int .i64 i] w fun e w' => e = .returned (.tuple #[.string (wb (lw A.k.toNat N i)), .int .i64 0]) ∧ Below w.heap.size w w' := by
  have H : Hid (MO w ob A M N) := h
  obtain ⟨base, bt, b, mb, gw, ga, R, n, a, c, d, vl, D, an, cn, aa, ca, h⟩ := h
  have hnm := h.num
  have hms := h.mon.most
  have hin : i < n := by omega
  have c5 : w.cell? ⟨ob, 5, none⟩ = some (.slice (some ⟨gw, 0, none⟩) n n) := cell_at h.box rfl
  have hw := h.wp.cell hin
  have hll := lw_len h.mon.fst i hi
  obtain ⟨X, hX⟩ : ∃ X, wb (lw A.k.toNat N i) = X := ⟨_, rfl⟩
  have hXs : X.size ≤ 281474976710656 := by rw [← hX, wb_size]; omega
  rw [hX] at hw
  rw [hX]
  have hiI : (i : Int) < n := by omega
  have HCI : Hid (mck M.length i = 0) := by show mck _ _ = 0; unfold mck; rw [if_pos ⟨by omega, by omega⟩]
  clear h hnm hll hX hms
  go_enter Try.func17, Try.ntmps17
  go_wp2_with fail
  refine (mcheck_any H.out i).mono ?_
  rintro e w1 ⟨rfl, rfl⟩
  rw [HCI.out]
  go_wp2_with fail
  refine (sClone_any X w hXs).mono ?_
  rintro e w1 ⟨rfl, hb⟩
  go_wp2_with fail
  go_ret2
  exact ⟨rfl, hb⟩
theorem mplace_any (x : Nat) (hx : x < 200) (h97 : 97 ≤ x) (w : World) : Calls Try.prog 42 #[.int .i32 (x : Int)] w fun e w' => e = .returned (.int .i64 ((x - 97 : Nat) : Int)) ∧ w = w' := by
  have e1 : IntKind.i32.wrap ((x : Int) - 97) = ((x - 97 : Nat) : Int) := by rw [IntKind.wrap_i32]; omega
  have e2 : IntKind.i64.wrap ((x - 97 : Nat) : Int) = ((x - 97 : Nat) : Int) := by rw [IntKind.wrap_i64]; omega
  obtain ⟨y, hy⟩ : ∃ y, x - 97 = y := ⟨_, rfl⟩
  rw [hy] at e1 e2
  rw [hy]
  go_enter Try.func42, Try.ntmps42
  go_wp2_with fail
  go_ret
  exact ⟨rfl, rfl⟩
def itP (w : World) (k : Nat) : Nat := match w.heap[k]? with | some (.stringIter _ p) => p | _ => 0
theorem itP_eq {w : World} {k : Nat} {s : ByteArray} {p : Nat} (h : w.heap[k]? = some (.stringIter s p)) : itP w k = p := by unfold itP; rw [h]
theorem it_below {n k : Nat} {w w1 : World} {s : ByteArray} {p : Nat} (h : Below n w w1) (hk : n ≤ k) : Below n w (w1.iterAt k s p) :=
  h.trans ⟨rfl, rfl, rfl, by simp [World.iterAt], fun j hj => iterAt_other _ _ _ _ _ (by omega)⟩
set_option maxHeartbeats 4000000 in
set_option maxRecDepth 100000 in
theorem melement_any {w : World} {ob : Nat} {A : Aut} {M : List (List Nat)} {N : List Nat} (h : MO w ob A M N) (s : ByteArray) (hs : Lts A.k s) (hz : s.size ≤ 9223372036854775807) : Calls Try.prog 24 #[.pointer (some ⟨ob, 0, none⟩), .string s] w fun e w' => e = .returned (.int .i64 (mr A.k.toNat N 0 (lets s) : Nat)) ∧ Below w.heap.size w w' := by
  obtain ⟨base, bt, b, mb, gw, ga, R, n, a, c, d, vl, D, an, cn, aa, ca, h⟩ := h
  have hks := h.mon.G.ks
  have HMon : Hid (Mon A M N) := h.mon
  have hnm := h.num
  have hms := h.mon.most
  have HRT : Hid (RT w R n A.k.toNat N (fun _ _ => True) (fun _ _ => True)) := h.rt
  have HBX : Hid (w.cell? ⟨ob, 7, none⟩ = some (.int .i64 (A.k.toNat : Int)) ∧ w.cell? ⟨ob, 8, none⟩ = some (.slice (some ⟨R, 0, none⟩) a a)) := ⟨cell_at h.box rfl, cell_at h.box rfl⟩
  have hobl : ob < w.heap.size := (Array.getElem?_eq_some_iff.1 h.box).1
  have HLt : Hid (Lt A.k.toNat (lets s)) := fun x hx => by have := hs.lt_all x hx; omega
  have HLS : Hid (Lts A.k s) := hs
  obtain ⟨K, hK⟩ : ∃ K, A.k.toNat = K := ⟨_, rfl⟩
  have HKA : Hid (A.k.toNat = K) := hK
  have hkI : A.k = (K : Int) := by omega
  have HKI : Hid (A.k = (K : Int)) := hkI
  rw [hK] at HRT HBX hks
  rw [hK]
  have HNM : Hid (M.length = n ∧ n * K = a ∧ n ≤ 512) := by rw [hK] at hnm; exact ⟨hnm.1, hnm.2.1, by omega⟩
  have hKb : 1 ≤ K ∧ K ≤ 8 := ⟨hks.1, hks.2.1⟩
  clear h hs hnm hms hks hkI hK
  go_enter Try.func24, Try.ntmps24
  go_wp2_with fail
  have HI0 : Hid ((w.iter s 0).heap[w.heap.size]? = some (.stringIter s 0) ∧ Below w.heap.size w (w.iter s 0)) := ⟨heap_alloc_new w _, (Below.refl _ _).alloc (Nat.le_refl _) _⟩
  go_loopw [5, 7] (fun v5 _ wr => ∃ pos : Nat, v5 = .int .i64 (mr K N 0 ((lets s).take pos) : Nat) ∧ wr.heap[w.heap.size]? = some (.stringIter s pos) ∧ pos ≤ s.size ∧ Below w.heap.size w wr) (fun _ _ wr => s.size - itP wr w.heap.size)
  case atStart => exact ⟨0, rfl, HI0.out.1, Nat.zero_le _, HI0.out.2⟩
  case round =>
    obtain ⟨pos, rfl, hit, hp, hb⟩ := hrel
    have HIT : Hid (wr.heap[w.heap.size]? = some (.stringIter s pos)) := hit
    have HB : Hid (Below w.heap.size w wr) := hb
    clear hb HI0
    by_cases hlt : pos < s.size
    · have hnm := HNM.out
      have hrange : 97 ≤ (s[pos]'hlt).toNat ∧ (s[pos]'hlt).toNat < 97 + K := by
        have := HLS.out pos hlt
        rw [HKI.out] at this
        omega
      have hnx : ∀ ty, (Instr.next (.pointer (some ⟨w.heap.size, 0, none⟩)) true ty).run Try.prog wr = .ok (.tuple #[.bool true, .int .i64 pos, .int .i32 (s[pos]'hlt).toNat]) (wr.iterAt w.heap.size s (pos + 1)) := fun ty => run_next_ascii_at wr w.heap.size s pos ty hit hlt (by omega)
      have hx := lets_at s pos hlt
      obtain ⟨x, hxE⟩ : ∃ x, (s[pos]'hlt).toNat = x := ⟨_, rfl⟩
      rw [hxE] at hnx hrange hx
      obtain ⟨i, hi⟩ : ∃ i, mr K N 0 ((lets s).take pos) = i := ⟨_, rfl⟩
      have hin : i < n := by
        rw [← hi, ← hnm.1, ← HKA.out]
        exact HMon.out.lt (fun x hx => HLt.out x (List.mem_of_mem_take hx)) HMon.out.pos
      have hst : mr K N 0 ((lets s).take (pos + 1)) = N.getD (i * K + (x - 97)) 0 := by
        rw [List.take_add_one, hx, Option.toList_some, mr_app, hi, mr_one]
      obtain ⟨q, hq⟩ : ∃ q, i * K = q := ⟨_, rfl⟩
      have hqlt : q + (x - 97) < a := by rw [← hq, ← hnm.2.1]; exact idx_lt hin (by omega)
      obtain ⟨v, hv⟩ : ∃ v, N.getD (q + (x - 97)) 0 = v := ⟨_, rfl⟩
      have hvn : v < n := by
        rw [← hv, ← hnm.1]
        exact HMon.out.nl (by rw [HMon.out.len, hnm.1, HKA.out, hnm.2.1]; exact hqlt)
      rw [hq, hv] at hst
      rw [hi]
      have hna : a ≤ 512 * 8 := by rw [← hnm.2.1]; exact Nat.mul_le_mul hnm.2.2 hKb.2
      obtain ⟨wi, hwi⟩ : ∃ wi, wi = wr.iterAt w.heap.size s (pos + 1) := ⟨_, rfl⟩
      rw [← hwi] at hnx
      have HIN : Hid (wi.heap[w.heap.size]? = some (.stringIter s (pos + 1))) := by show _ = _; rw [hwi]; exact iterAt_heap wr _ s pos (pos + 1) hit
      have HBI : Hid (Below w.heap.size w wi) := by show Below _ _ _; rw [hwi]; exact it_below HB.out (Nat.le_refl _)
      obtain ⟨cc, hcc⟩ : ∃ cc, x - 97 = cc := ⟨_, rfl⟩
      rw [hcc] at hqlt hv
      have HPL : Hid (∀ y, Calls Try.prog 42 #[.int .i32 (x : Int)] y fun e w' => e = .returned (.int .i64 (cc : Int)) ∧ y = w') := fun y => by
        have := mplace_any x (by omega) hrange.1 y
        rw [hcc] at this
        exact this
      have HGA : Hid (∀ y, RT y R n K N (fun _ _ => True) (fun _ _ => True) → Calls Try.prog 26 #[.agg #[.int .i64 (K : Int), .slice (some ⟨R, 0, none⟩) a a], .int .i64 i, .int .i64 cc] y fun e w' => e = .returned (.int .i64 v) ∧ Below y.heap.size y w') := fun y hy => by
        refine gat_any R 0 K i cc a a q v hq hqlt (by omega) (by omega) y ?_ hy.lt
        have := hy.right (p := q + cc) (by rw [hnm.2.1]; exact hqlt)
        rw [hv] at this
        rw [Nat.zero_add]
        exact this
      have HMK : Hid (∀ y, Below w.heap.size w y → (y.cell? ⟨ob, 7, none⟩ = some (.int .i64 (K : Int)) ∧ y.cell? ⟨ob, 8, none⟩ = some (.slice (some ⟨R, 0, none⟩) a a) ∧ Bx (fun y => RT y R n K N (fun _ _ => True) (fun _ _ => True)) y)) := fun y hy => ⟨by rw [below_cellJ hy hobl]; exact HBX.out.1, by rw [below_cellJ hy hobl]; exact HBX.out.2, Bx.mk (HRT.out.keep (hy.block _ HRT.out.lt))⟩
      have HSK : Hid (∀ y y' : World, (y.cell? ⟨ob, 7, none⟩ = some (.int .i64 (K : Int)) ∧ y.cell? ⟨ob, 8, none⟩ = some (.slice (some ⟨R, 0, none⟩) a a) ∧ Bx (fun y => RT y R n K N (fun _ _ => True) (fun _ _ => True)) y) → Below y.heap.size y y' → (y'.cell? ⟨ob, 7, none⟩ = some (.int .i64 (K : Int)) ∧ y'.cell? ⟨ob, 8, none⟩ = some (.slice (some ⟨R, 0, none⟩) a a) ∧ Bx (fun y => RT y R n K N (fun _ _ => True) (fun _ _ => True)) y')) := fun y y' hy hb => by
        have k1 : ob < y.heap.size := World.block_lt_of_cell? y ⟨ob, 7, none⟩ hy.1
        exact ⟨by rw [below_cellJ hb k1]; exact hy.1, by rw [below_cellJ hb k1]; exact hy.2.1, Bx.mk ((Bx.out hy.2.2).keep (hb.block _ (Bx.out hy.2.2).lt))⟩
      have S0 : ((wi.drew).cell? ⟨ob, 7, none⟩ = some (.int .i64 (K : Int)) ∧ (wi.drew).cell? ⟨ob, 8, none⟩ = some (.slice (some ⟨R, 0, none⟩) a a) ∧ Bx (fun y => RT y R n K N (fun _ _ => True) (fun _ _ => True)) (wi.drew)) := HMK.out _ HBI.out.drew
      have HLT : Hid (pos < s.size) := hlt
      have HST : Hid (mr K N 0 ((lets s).take (pos + 1)) = v) := hst
      have HRW : Hid (RT wi.drew R n K N (fun _ _ => True) (fun _ _ => True)) := HRT.out.keep (HBI.out.drew.block _ HRT.out.lt)
      clear hit hx hxE hi hst hq hv hwi hcc hnm hna hqlt hrange
      go_wp2_with fail
      go_region_held3 (fun y => (y.cell? ⟨ob, 7, none⟩ = some (.int .i64 (K : Int)) ∧ y.cell? ⟨ob, 8, none⟩ = some (.slice (some ⟨R, 0, none⟩) a a) ∧ Bx (fun y => RT y R n K N (fun _ _ => True) (fun _ _ => True)) y)) (first | assumption | exact S0 | exact HSK.out _ _ (by assumption) (by assumption)) (first
        | (go_at_call 42; refine (HPL.out _).mono ?_; rintro e y1 ⟨rfl, rfl⟩)
        | (go_at_call 26; refine (HGA.out _ HRW.out).mono ?_; rintro e y2 ⟨rfl, hy2⟩))
      have HB2 : Hid (Below w.heap.size w y2) := go_on HBI.out.drew hy2
      have HI2 : Hid (y2.heap[w.heap.size]? = some (.stringIter s (pos + 1))) := (hy2.block _ (Array.getElem?_eq_some_iff.1 HIN.out).1).trans HIN.out
      clear S0 hy2
      go_wp2_with fail
      go_roundw
      case rel => exact ⟨pos + 1, by rw [HST.out], HI2.out, HLT.out, HB2.out⟩
      case measure => rw [itP_eq HI2.out, itP_eq HIT.out]; have := HLT.out; omega
    · have hnx : ∀ ty, (Instr.next (.pointer (some ⟨w.heap.size, 0, none⟩)) true ty).run Try.prog wr = .ok (.tuple #[.bool false]) wr := fun ty => run_next_end_at wr w.heap.size s pos ty hit hlt
      have HE : Hid ((lets s).take pos = lets s) := List.take_of_length_le (by rw [lets_len]; omega)
      go_wp2_with fail
      go_ret
      exact ⟨by rw [HE.out]; rfl, HB.out⟩
end Go.Proofs.Ythmnoepjkobcmab
