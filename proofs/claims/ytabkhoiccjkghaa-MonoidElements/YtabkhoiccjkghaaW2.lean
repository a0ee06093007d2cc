/- E37 E57 E58 Rz E59, in one text. -/
import Derived.Test.YtabkhoiccjkghaaW1
import Derived.Laws.Bits64b
import Derived.Test.YtabkhoiccjkghaaE9
import Derived.Deep.RegionHeld3
import Derived.Test.YtabkhoiccjkghaaRows
import Derived.Test.YtabkhoiccjkghaaJsa
import Derived.Deep.DeepCutAuto
import Derived.Deep.AppendLies
import Derived.BigRegion
namespace Go.Proofs.Ytabkhoiccjkghaa
open Go Go.RowKit Go.Lib Go.Maps
set_option linter.unusedVariables false
attribute [-instance] List.instBEq instBEqProd

set_option maxHeartbeats 1000000 in
theorem mletters_any {w : World} {ob : Nat} {A : Aut} {M : List (List Nat)} {N : List Nat} (h : MO w ob A M N) : Calls Try.prog 14 #[.pointer (some ⟨ob, 0, none⟩)] w fun e w' => e = .returned (.int .i64 A.k) ∧ w = w' := by
  have H : Hid (MO w ob A M N) := h
  obtain ⟨base, bt, b, mb, gw, ga, R, n, a, c, d, vl, D, an, cn, aa, ca, h⟩ := h
  have c1 : w.cell? ⟨ob, 1, none⟩ = some (.int .i64 A.k) := cell_at h.box rfl
  clear h
  go_enter Try.func14, Try.ntmps14
  go_wp2_with fail
  refine (mmade_any H.out).mono ?_
  rintro e w1 ⟨rfl, rfl⟩
  go_wp2_with fail
  go_ret
  exact ⟨rfl, rfl⟩

set_option maxHeartbeats 1000000 in
set_option maxRecDepth 100000 in
theorem mpower_not {w : World} {ob : Nat} {A : Aut} {M : List (List Nat)} {N : List Nat} (h : MO w ob A M N) {i : Int} (hi : ¬ hasE M.length i = true) (n : Nat) : Calls Try.prog 9 #[.pointer (some ⟨ob, 0, none⟩), .int .i64 i, .int .u64 n] w fun e w' => e = .returned (.tuple #[.int .i64 0, .int .i64 11]) ∧ w = w' := by
  have C0 : Hid _ := mcheck_not h hi
  clear h hi
  go_enter Try.func9, Try.ntmps9
  go_wp2_with fail
  refine Calls.mono C0.out ?_
  rintro e w1 ⟨rfl, rfl⟩
  go_wp2_with fail
  go_ret2
  exact ⟨rfl, rfl⟩

/-- The products' table is read. -/
theorem mgrid_ok {w : World} {ob : Nat} {A : Aut} {M : List (List Nat)} {N : List Nat} (h : MO w ob A M N) : ∃ R d n c : Nat, w.cell? ⟨ob, 11, none⟩ = some (.int .i64 (n : Int)) ∧ w.cell? ⟨ob, 12, none⟩ = some (.slice (some ⟨R, d, none⟩) c c) ∧ ∀ y i j, Below w.heap.size w y → i < M.length → j < M.length → Calls Try.prog 33 #[.agg #[.int .i64 (n : Int), .slice (some ⟨R, d, none⟩) c c], .int .i64 (i : Nat), .int .i64 (j : Nat)] y fun e w' => e = .returned (.int .i64 (pr A.k.toNat N i j : Nat)) ∧ Below y.heap.size y w' := by
  obtain ⟨base, bt, b, mb, gw, ga, R, n, a, c, d, vl, D, an, cn, aa, ca, h⟩ := h
  refine ⟨R, d, n, c, cell_at h.box rfl, cell_at h.box rfl, fun y i j hy hi hj => ?_⟩
  have hnm := h.num
  have hms := h.mon.most
  have hcell := h.rt.prod (i := i) (j := j) (by omega) (by omega) trivial
  rw [hnm.2.1, hnm.2.2.2] at hcell
  have hp := h.mon.pr_lt hi hj
  have hn2 : n * n ≤ 512 * 512 := Nat.mul_le_mul (by omega) (by omega)
  refine gat_any R d n i j c c (i * n) (pr A.k.toNat N i j) rfl ?_ (by omega) (by omega) y ?_ (Nat.lt_of_lt_of_le h.rt.lt hy.size)
  · rw [← hnm.2.2.1]; exact idx_lt (by omega) (by omega)
  · rw [below_cellJ hy h.rt.lt]
    exact hcell

set_option maxHeartbeats 2000000 in
set_option maxRecDepth 100000 in
theorem mpower_ok {w : World} {ob : Nat} {A : Aut} {M : List (List Nat)} {N : List Nat} (h : MO w ob A M N) (i : Nat) (hi : i < M.length) (n : Nat) (hn : n < 18446744073709551616) : Calls Try.prog 9 #[.pointer (some ⟨ob, 0, none⟩), .int .i64 i, .int .u64 n] w fun e w' => e = .returned (.tuple #[.int .i64 (pwE A.k.toNat N 0 i n : Nat), .int .i64 0]) ∧ Below w.heap.size w w' := by
  have H : Hid (MO w ob A M N) := h
  have C0 : Hid (Calls Try.prog 28 #[.pointer (some ⟨ob, 0, none⟩), .int .i64 (i : Int)] w fun e w' => e = .returned (.int .i64 0) ∧ w = w') := mcheck_is h (decide_eq_true ⟨by omega, by omega⟩)
  obtain ⟨R, d, m, c, k1, k2, k3⟩ := mgrid_ok h
  have HK : Hid (∀ y, Below w.heap.size w y → y.cell? ⟨ob, 11, none⟩ = some (.int .i64 (m : Int)) ∧ y.cell? ⟨ob, 12, none⟩ = some (.slice (some ⟨R, d, none⟩) c c)) := fun y hy => by
    have hlt : ob < w.heap.size := World.block_lt_of_cell? w ⟨ob, 11, none⟩ k1
    exact ⟨by rw [below_cellJ hy hlt]; exact k1, by rw [below_cellJ hy hlt]; exact k2⟩
  have HG : Hid (∀ y i j, Below w.heap.size w y → i < M.length → j < M.length → Calls Try.prog 33 #[.agg #[.int .i64 (m : Int), .slice (some ⟨R, d, none⟩) c c], .int .i64 (i : Nat), .int .i64 (j : Nat)] y fun e w' => e = .returned (.int .i64 (pr A.k.toNat N i j : Nat)) ∧ Below y.heap.size y w') := k3
  obtain ⟨_, _, _, _, _, _, _, _, _, _, _, _, _, _, _, _, _, h0⟩ := h
  have HMon : Hid (Mon A M N) := h0.mon
  clear h0 k1 k2 k3
  go_enter Try.func9, Try.ntmps9
  go_wp2_with fail
  refine C0.out.mono ?_
  rintro e w1 ⟨rfl, rfl⟩
  go_wp2_with fail
  go_loopw [2, 9, 10] (fun vn vo vi wr => ∃ i' n' o : Nat, vi = .int .i64 i' ∧ vn = .int .u64 n' ∧ vo = .int .i64 o ∧ i' < M.length ∧ o < M.length ∧ n' < 18446744073709551616 ∧ pwE A.k.toNat N o i' n' = pwE A.k.toNat N 0 i n ∧ Below w.heap.size w wr) (fun vn _ _ _ => (Go.RowKit.intOf vn).toNat)
  case atStart => exact ⟨i, n, 0, rfl, rfl, rfl, hi, HMon.out.pos, hn, rfl, Below.refl _ _⟩
  case round =>
    obtain ⟨i', n', o, rfl, rfl, rfl, hi', ho, hn', he, hb⟩ := hrel
    have HB : Hid (Below w.heap.size w wr) := hb
    have HE : Hid (pwE A.k.toNat N o i' n' = pwE A.k.toNat N 0 i n) := he
    have cs := HK.out wr hb
    clear hb he
    by_cases h0 : n' = 0
    · subst h0
      go_wp2_with fail
      go_ret2
      exact ⟨by rw [← HE.out, pwE_zero]; rfl, HB.out⟩
    · have h0I : (0 : Int) < n' := by omega
      have hand : bits .and .u64 (n' : Int) 1 = ((n' % 2 : Nat) : Int) := by
        have := bits_and_u64_nat n' 1 hn' (by decide)
        rw [Nat.and_one_is_mod] at this
        exact this
      have HDV : Hid ((n' : Int) / 2 = ((n' / 2 : Nat) : Int)) := by show _ = _; omega
      have HD : Hid (n' / 2 < n' ∧ n' / 2 < 18446744073709551616) := ⟨by omega, by omega⟩
      have HO : Hid (o < M.length ∧ i' < M.length) := ⟨ho, hi'⟩
      by_cases hodd : n' % 2 = 1
      · rw [hodd] at hand
        have HN : Hid (pwE A.k.toNat N (pr A.k.toNat N o i') (pr A.k.toNat N i' i') (n' / 2) = pwE A.k.toNat N 0 i n) := by show _ = _; rw [← HE.out, pwE_odd hodd]
        clear hodd
        go_wp2_with fail
        refine (HG.out _ o i' HB.out HO.out.1 HO.out.2).mono ?_
        rintro e y1 ⟨rfl, hb⟩
        have HB1 : Hid (Below w.heap.size w y1) := go_on HB.out hb
        have cs1 := HK.out y1 HB1.out
        clear hb
        go_wp2_with fail
        refine (HG.out _ i' i' HB1.out HO.out.2 HO.out.2).mono ?_
        rintro e y2 ⟨rfl, hb⟩
        have HB2 : Hid (Below w.heap.size w y2) := go_on HB1.out hb
        clear hb
        go_wp2_with fail
        go_roundw
        case rel => exact ⟨_, n' / 2, _, rfl, by rw [← HDV.out] <;> simp, rfl, HMon.out.pr_lt HO.out.2 HO.out.2, HMon.out.pr_lt HO.out.1 HO.out.2, HD.out.2, HN.out, HB2.out⟩
        case measure => have := HD.out; simp [Go.RowKit.intOf]; omega
      · have hev : n' % 2 = 0 := by omega
        rw [hev] at hand
        have HN : Hid (pwE A.k.toNat N (o) (pr A.k.toNat N i' i') (n' / 2) = pwE A.k.toNat N 0 i n) := by show _ = _; rw [← HE.out, pwE_even h0 hodd]
        clear hodd
        go_wp2_with fail
        have HB1 : Hid (Below w.heap.size w wr) := HB.out
        refine (HG.out _ i' i' HB1.out HO.out.2 HO.out.2).mono ?_
        rintro e y2 ⟨rfl, hb⟩
        have HB2 : Hid (Below w.heap.size w y2) := go_on HB1.out hb
        clear hb
        go_wp2_with fail
        go_roundw
        case rel => exact ⟨_, n' / 2, _, rfl, by rw [← HDV.out] <;> simp, rfl, HMon.out.pr_lt HO.out.2 HO.out.2, HO.out.1, HD.out.2, HN.out, HB2.out⟩
        case measure => have := HD.out; simp [Go.RowKit.intOf]; omega

end Go.Proofs.Ytabkhoiccjkghaa

namespace Go.Proofs.Ytabkhoiccjkghaa
set_option linter.unusedVariables false
attribute [-instance] List.instBEq instBEqProd

theorem lw_more {k M : Nat} {n : List Nat} (h : Fst k M n) (r : List Nat) : ∀ s, s < M → lw k (n ++ r) s = lw k n s := by
  have h2 : Fst k M (n ++ r) := fun s h0 hs => by
    obtain ⟨a, b⟩ := h s h0 hs
    exact ⟨by simp [a], by rw [List.idxOf_append, if_pos a]; exact b⟩
  intro s
  induction s using Nat.strongRecOn with
  | _ s ih =>
    intro hs
    by_cases e : s = 0
    · subst e; rfl
    · obtain ⟨a, b⟩ := h s (by omega) hs
      rw [lw_step h2 (by omega) hs, lw_step h (by omega) hs, List.idxOf_append, if_pos a, ih _ b (by omega)]

/-- The words that stand in a list are the least words of the elements met so far. -/
structure WSo (K : Nat) (M : List (List Nat)) (Ws : List (List Nat)) (N : List Nat) : Prop where
  len : Ws.length = M.length
  at' : ∀ j, j < M.length → Ws[j]? = some (lw K N j)

theorem WSo.start (K : Nat) (l : List Nat) : WSo K [l] [[]] [] := ⟨rfl, fun j hj => by
  have : j = 0 := by simp at hj; omega
  subst this
  rfl⟩

theorem WSo.old {A : Aut} {i c : Nat} {M : List (List Nat)} {W : List (Nat × Nat)} {Ws : List (List Nat)} {N : List Nat} {f : Nat} (h : MSs A i c M W N f) (g : WSo A.k.toNat M Ws N) (x : Nat) : WSo A.k.toNat M Ws (N ++ [x]) :=
  ⟨g.len, fun j hj => by rw [g.at' j hj, lw_more h.bi.fst [x] j hj]⟩

theorem WSo.new {A : Aut} {i c : Nat} {M : List (List Nat)} {W : List (Nat × Nat)} {Ws : List (List Nat)} {N : List Nat} {f : Nat} (h : MSs A i c M W N f) (g : WSo A.k.toNat M Ws N) {l t u : List Nat} (hi : M[i]? = some l) (hc : c < A.k.toNat) (ht : mD A l c = t) (hm : t ∉ M) (hf : M.length < 512) (hu : Ws[i]? = some u) : WSo A.k.toNat (M ++ [t]) (Ws ++ [u ++ [c]]) (N ++ [M.length]) := by
  subst ht
  have hb := h.bi.new hc h.nl hi hm (by omega)
  have hil : i < M.length := (List.getElem?_eq_some_iff.1 hi).1
  refine ⟨by simp [g.len], fun j hj => ?_⟩
  by_cases q : j < M.length
  · rw [List.getElem?_append_left (by rw [g.len]; exact q), g.at' j q, lw_more h.bi.fst _ j q]
  · have e : j = M.length := by simp at hj; omega
    subst e
    have hn : M.length ∉ N := fun q => by
      obtain ⟨p, hp⟩ := List.mem_iff_getElem?.1 q
      have := h.bi.small hp
      omega
    have hx : (N ++ [M.length]).idxOf M.length = N.length := by
      rw [List.idxOf_append, if_neg hn, List.idxOf_cons_self]
      omega
    have e1 : (i * A.k.toNat + c) / A.k.toNat = i := by rw [Nat.mul_comm, Nat.mul_add_div (by omega), Nat.div_eq_of_lt hc]; rfl
    have e2 : (i * A.k.toNat + c) % A.k.toNat = c := by rw [Nat.mul_comm, Nat.mul_add_mod, Nat.mod_eq_of_lt hc]
    have hu' := g.at' i hil
    rw [hu, Option.some.injEq] at hu'
    have h0 : 0 < M.length := by omega
    rw [List.getElem?_append_right (by rw [g.len]; omega), g.len, Nat.sub_self, lw_step hb.fst h0 (by simp), hx, h.nl, e1, e2, lw_more h.bi.fst _ i hil, ← hu']
    rfl

theorem WSo.word {A : Aut} {i c : Nat} {M : List (List Nat)} {W : List (Nat × Nat)} {Ws : List (List Nat)} {N : List Nat} {f : Nat} (h : MSs A i c M W N f) (g : WSo A.k.toNat M Ws N) {j : Nat} {u : List Nat} (hu : Ws[j]? = some u) : u.length ≤ 512 := by
  have hj := (List.getElem?_eq_some_iff.1 hu).1
  rw [g.len] at hj
  have := g.at' j hj
  rw [hu, Option.some.injEq] at this
  subst this
  have := lw_len h.bi.fst j hj
  have := h.most
  omega

/-- Each element has an image for each state. -/
def Sh (n : Nat) (M : List (List Nat)) : Prop := ∀ m ∈ M, m.length = n ∧ ∀ x ∈ m, x < n

theorem Sh.start (n : Nat) : Sh n [stl n] := fun m hm => by
  simp only [List.mem_singleton] at hm
  subst hm
  exact ⟨stl_len n, fun x hx => by unfold stl at hx; exact List.mem_range.1 hx⟩

theorem mD_sh {A : Aut} (G : Good A) {l : List Nat} (hl : l.length = A.ac.length ∧ ∀ x ∈ l, x < A.ac.length) {c : Nat} (hc : c < A.k.toNat) : (mD A l c).length = A.ac.length ∧ ∀ x ∈ mD A l c, x < A.ac.length := by
  refine ⟨by unfold mD; rw [List.length_map]; exact hl.1, fun x hx => ?_⟩
  obtain ⟨s, hs, rfl⟩ := List.mem_map.1 hx
  exact (G.at (hl.2 s hs) (by have := G.ks; omega)).2.2

theorem Sh.new {A : Aut} (G : Good A) {M : List (List Nat)} (h : Sh A.ac.length M) {l t : List Nat} {i c : Nat} (hi : M[i]? = some l) (hc : c < A.k.toNat) (ht : mD A l c = t) : Sh A.ac.length (M ++ [t]) := fun m hm => by
  rcases List.mem_append.1 hm with q | q
  · exact h m q
  · simp only [List.mem_singleton] at q
    subst q
    subst ht
    exact mD_sh G (h l (List.mem_of_getElem? hi)) hc

theorem mD_at {A : Aut} {l : List Nat} {c s : Nat} (hs : s < l.length) : (mD A l c).getD s 0 = dN A (im l s) c := by
  unfold mD im
  simp [List.getD_eq_getElem?_getD, hs]

end Go.Proofs.Ytabkhoiccjkghaa

namespace Go.Proofs.Ytabkhoiccjkghaa
open Go Go.RowKit Go.Lib
set_option linter.unusedVariables false
attribute [-instance] List.instBEq instBEqProd

theorem Try.info_u8E : (Try.prog.info? 5).map (fun i => (i.zero, i.size, i.bytes)) = some (some (.int .u8 0), 1, 1) := by kernel_rfl

theorem addr_add0 (g j : Nat) : (⟨g, 0, none⟩ : Addr).add j = ⟨g, j, none⟩ := by unfold Addr.add; split <;> simp_all

/-- The first i bytes of t lie in block g. -/
def YP (w : World) (g : Nat) (t : List Nat) (i : Nat) : Prop := ∃ cur : Array Value, w.heap[g]? = some (.cells cur 5 (0, 0)) ∧ cur.size = t.length ∧ ∀ j, j < i → cur[j]? = some (.int .u8 ((t.getD j 0 : Nat) : Int))

theorem YP.keep {w w' : World} {g : Nat} {t : List Nat} {i : Nat} (h : YP w g t i) (e : w'.heap[g]? = w.heap[g]?) : YP w' g t i := by
  obtain ⟨cur, h1, h2, h3⟩ := h
  exact ⟨cur, e.trans h1, h2, h3⟩

theorem YP.lt {w : World} {g : Nat} {t : List Nat} {i : Nat} (h : YP w g t i) : g < w.heap.size := by
  obtain ⟨cur, h1, h2, h3⟩ := h
  exact (Array.getElem?_eq_some_iff.1 h1).1

theorem YP.below {w w' : World} {g : Nat} {t : List Nat} {i : Nat} (h : YP w g t i) (hb : Below w.heap.size w w') : YP w' g t i := h.keep (hb.block _ h.lt)

theorem YP.here {w : World} {g : Nat} {t : List Nat} {i : Nat} (h : YP w g t i) {j : Nat} (hj : j < t.length) : w.cell? ⟨g, j, none⟩ = some (pvS w g j) ∧ w.frozen? ⟨g, j, none⟩ = false := by
  obtain ⟨cur, h1, h2, h3⟩ := h
  refine ⟨?_, frozen_blk h1 j⟩
  unfold pvS
  rw [cell_of_row _ _ _ _ _ _ h1, Array.getElem?_eq_getElem (by omega)]
  rfl

theorem YP.put {w : World} {g : Nat} {t : List Nat} {i x : Nat} (h : YP w g t i) (hi : i < t.length) (hx : t.getD i 0 = x) : YP (w.setCell ⟨g, i, none⟩ (.int .u8 (x : Int))) g t (i + 1) := by
  obtain ⟨cur, h1, h2, h3⟩ := h
  refine ⟨_, heap_set h1, by simpa using h2, fun j hj => ?_⟩
  rw [Array.getElem?_setIfInBounds]
  by_cases e : i = j
  · subst e
    rw [if_pos rfl, if_pos (by omega), hx]
  · rw [if_neg e]
    exact h3 j (by omega)

theorem own_yp {w : World} {base g n : Nat} {t : List Nat} {xs : List Value} (hn : t.length = n) (h : w.ownsRow base 5 1 (.slice (some ⟨g, 0, none⟩) n n) n xs) : YP w g t 0 := by
  rcases h.2 with ⟨h1, _⟩ | ⟨g', cap, cur, h1, r1, r2, r3, r4, r5, r6⟩
  · cases h1
  · simp only [Value.slice.injEq, Option.some.injEq, Addr.mk.injEq] at h1
    obtain ⟨⟨rfl, _⟩, _, rfl⟩ := h1
    exact ⟨cur, r2, by omega, fun j hj => by omega⟩

/-- The bytes as a text. -/
theorem conv_yp {w : World} {g n : Nat} {t : List Nat} (h : YP w g t n) (hn : t.length = n) (hx : ∀ x ∈ t, x < 256) : Sem.run Try.prog (convert 94 9 (.slice (some ⟨g, 0, none⟩) n n)) w = .ok (.string (ib t)) w := by
  obtain ⟨cur, h1, h2, h3⟩ := h
  have := run_convert_bytes_back (P := Try.prog) w 94 9 5 ⟨g, 0, none⟩ n (t.map fun s => UInt8.ofNat s) Try.underlying94 Try.underlying5 Try.underlying9 (fun j hj => by
    have hj' : j < t.length := by simpa using hj
    rw [addr_add0, cell_of_row _ _ _ _ _ _ h1, h3 j (by omega), List.getElem_map, UInt8.toNat_ofNat', Nat.mod_eq_of_lt (hx _ (List.getElem_mem hj')), List.getD_eq_getElem?_getD, List.getElem?_eq_getElem hj']
    rfl)
  rw [List.length_map, hn] at this
  exact this

theorem grown_keep {w w9 : World} {base n j : Nat} {t ty : TypeId} {v : Value} {xs : List Value} {c : Array Value} (hv : w.ownsRow base t 1 v n xs) (hg : w.grownBy w9 v.ownBlock) (hj : w.heap[j]? = some (.cells c ty (0, 0))) (h1 : ty ≠ t) : w9.heap[j]? = w.heap[j]? :=
  hg.block j (Array.getElem?_eq_some_iff.1 hj).1 (fun e => by
    obtain ⟨_, cur, hc⟩ := own_blk hv e.symm
    exact blk_ne hj hc h1 rfl)

theorem YP.grown {w w9 : World} {base n g i : Nat} {t : TypeId} {v : Value} {xs : List Value} {l : List Nat} (h : YP w g l i) (hv : w.ownsRow base t 1 v n xs) (hg : w.grownBy w9 v.ownBlock) (h1 : 5 ≠ t) : YP w9 g l i := by
  obtain ⟨cur, h2, _⟩ := id h
  exact h.keep (grown_keep hv hg h2 h1)

/-- All that stands in memory while the document's Build goes. -/
structure EB (w : World) (arr : Array Value) (ob : Nat) (A : Aut) (an : Option Addr) (cn : Nat) (aa : Option Addr) (ca : Nat) (M Ws : List (List Nat)) (N : List Nat) (vi vw vn : Value) (wr : World) : Prop where
  rb : RB w.heap.size w wr ob A an cn aa ca M Ws N vi vw vn
  box : wr.heap[w.heap.size]? = some (.cells arr 25 (0, 0))

theorem EB.call {w : World} {arr : Array Value} {ob : Nat} {A : Aut} {an : Option Addr} {cn : Nat} {aa : Option Addr} {ca : Nat} {M Ws : List (List Nat)} {N : List Nat} {vi vw vn : Value} {wr y : World} (h : EB w arr ob A an cn aa ca M Ws N vi vw vn wr) (hb : Below wr.heap.size wr y) : EB w arr ob A an cn aa ca M Ws N vi vw vn y :=
  ⟨h.rb.call hb, (hb.block _ (Array.getElem?_eq_some_iff.1 h.box).1).trans h.box⟩

theorem box_grown {w w7 : World} {o : Obj} {b base n : Nat} {t : TypeId} {v u : Value} {xs : List Value} {arr : Array Value} {a : TypeId} {ob j : Nat} {brr : Array Value} {m : TypeId} (hbx : w.heap[b]? = some (.cells arr a (0, 0))) (hv : w.ownsRow base t 1 v n xs) (hg : (w.alloc o).grownBy w7 v.ownBlock) (h1 : a ≠ t) (h7 : w7.heap[ob]? = some (.cells brr m (0, 0))) (h2 : a ≠ m) : (w7.setCell ⟨ob, j, none⟩ u).heap[b]? = some (.cells arr a (0, 0)) := by
  have hbl := (Array.getElem?_eq_some_iff.1 hbx).1
  have e7 : w7.heap[b]? = some (.cells arr a (0, 0)) := by
    rw [hg.block b (by simp; omega) (fun e => by
      obtain ⟨_, cur, hc⟩ := own_blk hv e.symm
      exact blk_ne hbx hc h1 rfl), (below_new w o).block b hbl]
    exact hbx
  rw [heap_set_other (fun e => blk_ne e7 h7 h2 e)]
  exact e7

theorem EB.imgd {w : World} {arr : Array Value} {ob : Nat} {A : Aut} {an : Option Addr} {cn : Nat} {aa : Option Addr} {ca : Nat} {M Ws : List (List Nat)} {N : List Nat} {vi vw vn : Value} {wr w7 : World} {vi' : Value} {l : List Nat} {o : Obj} {q : Nat} (h : EB w arr ob A an cn aa ca M Ws N vi vw vn wr)
    (ho : w7.ownsRow w.heap.size 9 1 vi' (M.length + 1) (sI M ++ [.string (ib l)])) (hg : (wr.alloc o).grownBy w7 vi.ownBlock) (hl : vi'.ownBlock = vi.ownBlock ∨ vi'.ownBlock = some q) (hq : wr.heap.size ≤ q) :
    w7.heap[ob]? = some (.cells #[.int .i64 A.k, .slice an A.nx.length cn, .slice aa A.ac.length ca, vi, vw, vn] 54 (0, 0)) ∧ EB w arr ob A an cn aa ca (M ++ [l]) Ws N vi' vw vn (w7.setCell ⟨ob, 3, none⟩ vi') := by
  obtain ⟨g1, g2⟩ := h.rb.imgd ho hg hl hq
  exact ⟨g1, g2, box_grown h.box h.rb.img hg (by decide) g1 (by decide)⟩

theorem EB.wdsd {w : World} {arr : Array Value} {ob : Nat} {A : Aut} {an : Option Addr} {cn : Nat} {aa : Option Addr} {ca : Nat} {M Ws : List (List Nat)} {N : List Nat} {vi vw vn : Value} {wr w7 : World} {vw' : Value} {l : List Nat} {o : Obj} {q : Nat} (h : EB w arr ob A an cn aa ca M Ws N vi vw vn wr)
    (ho : w7.ownsRow w.heap.size 9 1 vw' (Ws.length + 1) (sW Ws ++ [.string (wb l)])) (hg : (wr.alloc o).grownBy w7 vw.ownBlock) (hl : vw'.ownBlock = vw.ownBlock ∨ vw'.ownBlock = some q) (hq : wr.heap.size ≤ q) :
    w7.heap[ob]? = some (.cells #[.int .i64 A.k, .slice an A.nx.length cn, .slice aa A.ac.length ca, vi, vw, vn] 54 (0, 0)) ∧ EB w arr ob A an cn aa ca M (Ws ++ [l]) N vi vw' vn (w7.setCell ⟨ob, 4, none⟩ vw') := by
  obtain ⟨g1, g2⟩ := h.rb.wdsd ho hg hl hq
  exact ⟨g1, g2, box_grown h.box h.rb.wds hg (by decide) g1 (by decide)⟩

theorem EB.nxtd {w : World} {arr : Array Value} {ob : Nat} {A : Aut} {an : Option Addr} {cn : Nat} {aa : Option Addr} {ca : Nat} {M Ws : List (List Nat)} {N : List Nat} {vi vw vn : Value} {wr w7 : World} {vn' : Value} {l : Nat} {o : Obj} {q : Nat} (h : EB w arr ob A an cn aa ca M Ws N vi vw vn wr)
    (ho : w7.ownsRow w.heap.size 3 1 vn' (N.length + 1) (qN N ++ [.int .i64 (l : Int)])) (hg : (wr.alloc o).grownBy w7 vn.ownBlock) (hl : vn'.ownBlock = vn.ownBlock ∨ vn'.ownBlock = some q) (hq : wr.heap.size ≤ q) :
    w7.heap[ob]? = some (.cells #[.int .i64 A.k, .slice an A.nx.length cn, .slice aa A.ac.length ca, vi, vw, vn] 54 (0, 0)) ∧ EB w arr ob A an cn aa ca M Ws (N ++ [l]) vi vw vn' (w7.setCell ⟨ob, 5, none⟩ vn') := by
  obtain ⟨g1, g2⟩ := h.rb.nxtd ho hg hl hq
  exact ⟨g1, g2, box_grown h.box h.rb.nxt hg (by decide) g1 (by decide)⟩

/-- What stands in memory once the document's monoid is there, and has no elements yet. -/
structure B0 (w : World) (arr : Array Value) (ob : Nat) (A : Aut) (an : Option Addr) (cn : Nat) (aa : Option Addr) (ca : Nat) (wr : World) : Prop where
  out : wr.heap[ob]? = some (.cells #[.int .i64 A.k, .slice an A.nx.length cn, .slice aa A.ac.length ca, .slice none 0 0, .slice none 0 0, .slice none 0 0] 54 (0, 0))
  nx : wr.ownsRow w.heap.size 3 1 (.slice an A.nx.length cn) A.nx.length (zC A.nx)
  ac : wr.ownsRow w.heap.size 4 1 (.slice aa A.ac.length ca) A.ac.length (bC A.ac)
  lo : w.heap.size ≤ ob
  below : Below w.heap.size w wr
  box : wr.heap[w.heap.size]? = some (.cells arr 25 (0, 0))

theorem cells_own {w : World} {base g : Nat} {t : TypeId} {u : Value} (h : w.heap[g]? = some (.cells #[u] t (0, 0))) (hb : base ≤ g) (h1 : u.oneCell' = true) : w.ownsRow base t 1 (.slice (some ⟨g, 0, none⟩) 1 1) 1 [u] :=
  ⟨by simp, .inr ⟨g, 1, #[u], rfl, hb, h, Nat.le_refl _, by unfold maxLen; omega, by simp, by simp⟩⟩

/-- The first image and the first word are laid. -/
theorem EB.start {w : World} {arr : Array Value} {ob : Nat} {A : Aut} {an : Option Addr} {cn : Nat} {aa : Option Addr} {ca : Nat} {wr : World} (h : B0 w arr ob A an cn aa ca wr) (l : List Nat) (y1 y2 : World)
    (e1 : y1 = (wr.alloc (.cells #[.string (ib l)] 9)).setCell ⟨ob, 3, none⟩ (.slice (some ⟨wr.heap.size, 0, none⟩) 1 1))
    (e2 : y2 = (y1.alloc (.cells #[.string ByteArray.empty] 9)).setCell ⟨ob, 4, none⟩ (.slice (some ⟨wr.heap.size + 1, 0, none⟩) 1 1)) :
    EB w arr ob A an cn aa ca [l] [[]] [] (.slice (some ⟨wr.heap.size, 0, none⟩) 1 1) (.slice (some ⟨wr.heap.size + 1, 0, none⟩) 1 1) (.slice none 0 0) y2 := by
  have hol := (Array.getElem?_eq_some_iff.1 h.out).1
  have hbl := (Array.getElem?_eq_some_iff.1 h.box).1
  have hws := h.below.size
  have hne : w.heap.size ≠ ob := blk_ne h.box h.out (by decide)
  have s1 : y1.heap.size = wr.heap.size + 1 := by rw [e1]; simp [World.setCell]
  have o1 : y1.heap[ob]? = some (.cells #[.int .i64 A.k, .slice an A.nx.length cn, .slice aa A.ac.length ca, .slice (some ⟨wr.heap.size, 0, none⟩) 1 1, .slice none 0 0, .slice none 0 0] 54 (0, 0)) := by
    rw [e1]; exact heap_set ((heap_allo hol _).trans h.out)
  have k1 : ∀ j, j < wr.heap.size → j ≠ ob → y1.heap[j]? = wr.heap[j]? := fun j hj hn => by rw [e1, heap_set_other hn, heap_allo hj]
  have k2 : ∀ j, j < wr.heap.size + 1 → j ≠ ob → y2.heap[j]? = y1.heap[j]? := fun j hj hn => by rw [e2, heap_set_other hn, heap_allo (by omega)]
  have o2 : y2.heap[ob]? = some (.cells #[.int .i64 A.k, .slice an A.nx.length cn, .slice aa A.ac.length ca, .slice (some ⟨wr.heap.size, 0, none⟩) 1 1, .slice (some ⟨wr.heap.size + 1, 0, none⟩) 1 1, .slice none 0 0] 54 (0, 0)) := by
    rw [e2]; exact heap_set ((heap_allo (by omega) _).trans o1)
  have kt : ∀ (j : Nat) (cur : Array Value) (ty : TypeId), wr.heap[j]? = some (.cells cur ty (0, 0)) → ty ≠ 54 → y2.heap[j]? = wr.heap[j]? := fun j cur ty hj hn => by
    have hjl := (Array.getElem?_eq_some_iff.1 hj).1
    have hne := blk_ne hj h.out hn
    rw [k2 j (by omega) hne, k1 j hjl hne]
  have g3 : y2.heap[wr.heap.size]? = some (.cells #[.string (ib l)] 9 (0, 0)) := by
    rw [k2 _ (by omega) (by omega), e1, heap_set_other (by omega)]
    exact heap_last _ _
  have g4 : y2.heap[wr.heap.size + 1]? = some (.cells #[.string ByteArray.empty] 9 (0, 0)) := by
    rw [e2, heap_set_other (by omega), ← s1]
    exact heap_last _ _
  refine ⟨⟨o2, own_keep h.nx (fun j cur _ hc => kt j _ _ hc (by decide)), own_keep h.ac (fun j cur _ hc => kt j _ _ hc (by decide)), ?_, ?_, World.ownsRow_nil _ _ _ _, h.lo, ?_, ?_, ?_, Nat.le_refl _⟩, (kt _ _ _ h.box (by decide)).trans h.box⟩
  · exact cells_own g3 (by omega) rfl
  · exact cells_own g4 (by omega) rfl
  · intro j hj e
    simp only [Value.ownBlock, Option.some.injEq] at hj e
    omega
  · intro j hj
    cases hj
  · have b1 : Below w.heap.size w y1 := by rw [e1]; exact (h.below.alloc hws _).setCell (p := ⟨ob, 3, none⟩) h.lo _
    rw [e2]
    exact (b1.alloc b1.size _).setCell (p := ⟨ob, 4, none⟩) h.lo _

/-- A monoid of the document's Build, of which nothing lies below lo. -/
def RFb (lo : Nat) (w : World) (rb : Nat) (A : Aut) (M : List (List Nat)) (N : List Nat) : Prop := ∃ an cn aa ca gi ci gw cw gn cg, RP w rb A M N an cn aa ca gi ci gw cw gn cg ∧ lo ≤ rb ∧ (∀ j, (Value.slice an A.nx.length cn).ownBlock = some j → lo ≤ j) ∧ (∀ j, (Value.slice aa A.ac.length ca).ownBlock = some j → lo ≤ j) ∧ lo ≤ gi ∧ lo ≤ gw ∧ lo ≤ gn

theorem RFb.rf {lo : Nat} {w : World} {rb : Nat} {A : Aut} {M : List (List Nat)} {N : List Nat} (h : RFb lo w rb A M N) : RF w rb A M N := by
  obtain ⟨an, cn, aa, ca, gi, ci, gw, cw, gn, cg, h, _⟩ := h
  exact ⟨an, cn, aa, ca, gi, ci, gw, cw, gn, cg, h⟩

theorem sr_set {w : World} {a : Option Addr} {us : List Value} {n c g o lo : Nat} {v : Value} (h : SR w a us) (hl : ∀ j, (Value.slice a n c).ownBlock = some j → lo ≤ j) (hg : g < lo) : SR (w.setCell ⟨g, o, none⟩ v) a us := fun j u hu => by
  obtain ⟨b, q, e, hb, hc⟩ := h j u hu
  subst e
  have h1 : lo ≤ b := hl b rfl
  exact ⟨b, q, rfl, by simpa [World.setCell] using hb, (World.cell?_of_block (heap_set_other (show b ≠ g by omega))).trans hc⟩

theorem RFb.set {lo : Nat} {w : World} {rb : Nat} {A : Aut} {M : List (List Nat)} {N : List Nat} (h : RFb lo w rb A M N) {g o : Nat} {v : Value} (hg : g < lo) : RFb lo (w.setCell ⟨g, o, none⟩ v) rb A M N := by
  obtain ⟨an, cn, aa, ca, gi, ci, gw, cw, gn, cg, h, l1, l2, l3, l4, l5, l6⟩ := h
  have hs : (w.setCell ⟨g, o, none⟩ v).heap.size = w.heap.size := by simp [World.setCell]
  have k : ∀ b j, lo ≤ b → (w.setCell ⟨g, o, none⟩ v).cell? ⟨b, j, none⟩ = w.cell? ⟨b, j, none⟩ := fun b j hb => World.cell?_of_block (heap_set_other (show b ≠ g by omega))
  exact ⟨an, cn, aa, ca, gi, ci, gw, cw, gn, cg, ⟨(heap_set_other (show rb ≠ g by omega)).trans h.box, sr_set h.nx l2 hg, sr_set h.ac l3 hg, by rw [hs]; exact h.li, fun j hj => (k _ _ l4).trans (h.img j hj), by rw [hs]; exact h.lv, fun j hj => (k _ _ l5).trans (h.wds j hj), by rw [hs]; exact h.ln, fun j hj => (k _ _ l6).trans (h.nxt j hj), h.mon⟩, l1, l2, l3, l4, l5, l6⟩

theorem RFb.below {lo : Nat} {w w' : World} {rb : Nat} {A : Aut} {M : List (List Nat)} {N : List Nat} (h : RFb lo w rb A M N) (hb : Below w.heap.size w w') : RFb lo w' rb A M N := by
  obtain ⟨an, cn, aa, ca, gi, ci, gw, cw, gn, cg, h, l⟩ := h
  exact ⟨an, cn, aa, ca, gi, ci, gw, cw, gn, cg, ⟨(hb.block _ (Array.getElem?_eq_some_iff.1 h.box).1).trans h.box, h.nx.stay hb, h.ac.stay hb, Nat.lt_of_lt_of_le h.li hb.size, fun j hj => by rw [below_cellJ hb h.li]; exact h.img j hj, Nat.lt_of_lt_of_le h.lv hb.size, fun j hj => by rw [below_cellJ hb h.lv]; exact h.wds j hj, Nat.lt_of_lt_of_le h.ln hb.size, fun j hj => by rw [below_cellJ hb h.ln]; exact h.nxt j hj, h.mon⟩, l⟩

/-- What the document's Build answers. -/
def RbQ (A : Aut) (w : World) (e : Ending) (w' : World) : Prop :=
  (bdE A ≠ 0 ∧ e = .returned (.tuple #[.pointer none, .int .i64 (bdE A)]) ∧ Below w.heap.size w w') ∨
  ∃ rb M N, e = .returned (.tuple #[.pointer (some ⟨rb, 0, none⟩), .int .i64 0]) ∧ Good A ∧ A.ac.length ≤ 64 ∧ mEl A = some (M, N) ∧ RFb w.heap.size w' rb A M N ∧ Below w.heap.size w w'

/-- The monoid is whole. -/
theorem EB.done {w : World} {arr : Array Value} {ob : Nat} {A : Aut} {an : Option Addr} {cn : Nat} {aa : Option Addr} {ca : Nat} {M Ws : List (List Nat)} {N : List Nat} {vi vw vn : Value} {wr : World} (h : EB w arr ob A an cn aa ca M Ws N vi vw vn wr) (G : Good A) (h64 : A.ac.length ≤ 64) (he : mEl A = some (M, N)) (hw : WSo A.k.toNat M Ws N) : RbQ A w (.returned (.tuple #[.pointer (some ⟨ob, 0, none⟩), .int .i64 0])) wr := by
  have hm := mon_of G h64 he
  have hp := hm.pos
  have hk := G.ks
  have hN : 0 < N.length := by rw [hm.len]; exact Nat.mul_pos hp (by omega)
  obtain ⟨gi, oi, ci⟩ : ∃ gi ci, vi = .slice (some ⟨gi, 0, none⟩) M.length ci := by
    rcases h.rb.img.2 with ⟨_, q⟩ | ⟨g, cap, cur, q, _⟩
    · exfalso; have := h.rb.img.1; rw [q] at this; simp [sI] at this; omega
    · exact ⟨g, cap, q⟩
  obtain ⟨gw, cw, rfl⟩ : ∃ gi ci, vw = .slice (some ⟨gi, 0, none⟩) Ws.length ci := by
    rcases h.rb.wds.2 with ⟨_, q⟩ | ⟨g, cap, cur, q, _⟩
    · exfalso; have := hw.len; omega
    · exact ⟨g, cap, q⟩
  obtain ⟨gn, cg, rfl⟩ : ∃ gi ci, vn = .slice (some ⟨gi, 0, none⟩) N.length ci := by
    rcases h.rb.nxt.2 with ⟨_, q⟩ | ⟨g, cap, cur, q, _⟩
    · exfalso; have := h.rb.nxt.1; rw [q] at this; simp [qN] at this; omega
    · exact ⟨g, cap, q⟩
  subst ci
  have s1 := own_sr h.rb.img
  have s2 := own_sr h.rb.wds
  have s3 := own_sr h.rb.nxt
  refine .inr ⟨ob, M, N, rfl, G, h64, he, ⟨an, cn, aa, ca, gi, oi, gw, cw, gn, cg, ?_, h.rb.lo, fun j hj => (h.rb.nx.lt j hj).1, fun j hj => (h.rb.ac.lt j hj).1, (h.rb.img.lt gi rfl).1, (h.rb.wds.lt gw rfl).1, (h.rb.nxt.lt gn rfl).1⟩, h.rb.below⟩
  have hb := h.rb.box
  rw [hw.len] at hb
  refine ⟨hb, own_sr h.rb.nx, own_sr h.rb.ac, ?_, ?_, ?_, ?_, ?_, ?_, hm⟩
  · exact (h.rb.img.lt gi rfl).2
  · intro j hj
    obtain ⟨g, o, e, _, hc⟩ := s1 j (.string (ib (M.getD j []))) (by unfold sI; rw [List.getElem?_map, List.getElem?_eq_getElem hj, List.getD_eq_getElem?_getD, List.getElem?_eq_getElem hj]; rfl)
    simp only [Option.some.injEq, Addr.mk.injEq, and_true] at e
    obtain ⟨rfl, rfl⟩ := e
    rwa [Nat.zero_add] at hc
  · exact (h.rb.wds.lt gw rfl).2
  · intro j hj
    obtain ⟨g, o, e, _, hc⟩ := s2 j (.string (wb (lw A.k.toNat N j))) (by unfold sW; rw [List.getElem?_map, hw.at' j hj]; rfl)
    simp only [Option.some.injEq, Addr.mk.injEq, and_true] at e
    obtain ⟨rfl, rfl⟩ := e
    rwa [Nat.zero_add] at hc
  · exact (h.rb.nxt.lt gn rfl).2
  · intro j hj
    obtain ⟨g, o, e, _, hc⟩ := s3 j (.int .i64 ((N.getD j 0 : Nat) : Int)) (by unfold qN; rw [List.getElem?_map, List.getElem?_eq_getElem hj, List.getD_eq_getElem?_getD, List.getElem?_eq_getElem hj]; rfl)
    simp only [Option.some.injEq, Addr.mk.injEq, and_true] at e
    obtain ⟨rfl, rfl⟩ := e
    rwa [Nat.zero_add] at hc

end Go.Proofs.Ytabkhoiccjkghaa

namespace Go.Proofs.Ytabkhoiccjkghaa
open Go
set_option linter.unusedVariables false

section
variable {P : Program} {ops : Array Oper} {Q : Exit → Act → World → Prop} {md : Region.Mode} {S : World → Prop} {z : Nat}

/-- Whatever order is picked, and S holds behind each operation but z. -/
def wpAnyL (P : Program) (md : Region.Mode) (ops : Array Oper) (Q : Exit → Act → World → Prop) (S : World → Prop) (z : Nat) : Nat → Array Bool → Act → World → Prop
  | 0, listed, a, w => Region.ready md ops listed = [] ∧ Q .normal a w
  | fuel + 1, listed, a, w =>
    (Region.ready md ops listed = [] → Q .normal a w) ∧
    ∀ i ∈ Region.ready md ops listed, wpOp P ops Q i (fun a' w' => (i ≠ z → S w') ∧ wpAnyL P md ops Q S z fuel (listed.setIfInBounds i true) a' w') a w

theorem wpAny_of_L : ∀ (fuel : Nat) (listed : Array Bool) (a : Act) (w : World), wpAnyL P md ops Q S z fuel listed a w → wpAny P md ops Q fuel listed a w
  | 0, _, _, _, h => h
  | fuel + 1, _, _, _, h => ⟨h.1, fun i hi => wpOp_mono (fun a' w' h' => wpAny_of_L fuel _ a' w' h'.2) (h.2 i hi)⟩

/-- What has come up waits for nothing that has not. -/
def Cl (md : Region.Mode) (ops : Array Oper) (listed : Array Bool) : Prop := ∀ (j : Nat) (o : Oper), ops[j]? = some o → listed.getD j true = true → ∀ e ∈ o.after, Region.binds md e = true → listed.getD e.on false = true

def closedB (md : Region.Mode) (ops : Array Oper) (listed : Array Bool) : Bool := (List.range ops.size).all fun j => match ops[j]? with
  | some o => !(listed.getD j true) || o.after.all fun e => !(Region.binds md e) || listed.getD e.on false
  | none => true

theorem closed_spec {listed : Array Bool} (h : closedB md ops listed = true) : Cl md ops listed := by
  intro j o ho hl e he hb
  unfold closedB at h
  rw [List.all_eq_true] at h
  have := h j (List.mem_range.2 (Array.getElem?_eq_some_iff.1 ho).1)
  rw [ho] at this
  simp only [hl, Bool.not_true, Bool.false_or, Array.all_eq_true_iff_forall_mem] at this
  have := this e he
  rw [hb] at this
  simpa using this

/-- All others lead to z. -/
def chainB (md : Region.Mode) (ops : Array Oper) (z : Nat) : Bool := decide (z + 1 = ops.size) && (List.range z).all fun i => (List.range ops.size).any fun k => decide (i < k) && (match ops[k]? with
  | some o => o.after.any fun e => Region.binds md e && decide (e.on = i)
  | none => false)

theorem getD_tf {listed : Array Bool} {i : Nat} (h : listed.getD i false = true) : listed.getD i true = true := by
  unfold Array.getD at *
  split at h
  · rename_i hl
    rw [dif_pos hl]
    exact h
  · cases h

theorem all_listed {listed : Array Bool} (hC : chainB md ops z = true) (hcl : Cl md ops listed) (hz : z ∈ Region.ready md ops listed) : ∀ n i, z ≤ i + n → i < z → listed.getD i true = true := by
  unfold chainB at hC
  rw [Bool.and_eq_true, decide_eq_true_iff, List.all_eq_true] at hC
  obtain ⟨_, oz, hoz, haz⟩ := mem_ready.1 hz
  intro n
  induction n with
  | zero => intro i h1 h2; omega
  | succ n ih =>
    intro i h1 h2
    have := hC.2 i (List.mem_range.2 h2)
    rw [List.any_eq_true] at this
    obtain ⟨k, hk, hk2⟩ := this
    rw [List.mem_range] at hk
    rw [Bool.and_eq_true, decide_eq_true_iff] at hk2
    obtain ⟨hik, hk3⟩ := hk2
    cases ho : ops[k]? with
    | none => rw [ho] at hk3; cases hk3
    | some o =>
      rw [ho] at hk3
      simp only [Array.any_eq_true'] at hk3
      obtain ⟨e, he, hk4⟩ := hk3
      rw [Bool.and_eq_true, decide_eq_true_iff] at hk4
      obtain ⟨hb, rfl⟩ := hk4
      by_cases hkz : k = z
      · subst hkz
        rw [hoz, Option.some.injEq] at ho
        subst ho
        exact getD_tf (haz e he hb)
      · have := ih k (by omega) (by omega)
        exact getD_tf (hcl k o ho this e he hb)

theorem cl_step {listed : Array Bool} {j : Nat} (hcl : Cl md ops listed) (hj : j ∈ Region.ready md ops listed) : Cl md ops (listed.setIfInBounds j true) := by
  obtain ⟨_, oj, hoj, haj⟩ := mem_ready.1 hj
  have up : ∀ i, listed.getD i false = true → (listed.setIfInBounds j true).getD i false = true := fun i hi => by
    by_cases e : j = i
    · subst e
      unfold Array.getD at *
      split at hi
      · rename_i hl
        rw [dif_pos (by simpa using hl)]
        simp
      · cases hi
    · rw [getD_set_ne false e]; exact hi
  intro k o ho hl e he hb
  by_cases c : j = k
  · subst c
    rw [hoj, Option.some.injEq] at ho
    subst ho
    exact up _ (haj e he hb)
  · rw [getD_set_ne true c] at hl
    exact up _ (hcl k o ho hl e he hb)

theorem wpAnyL_first {i : Nat} {oi : Oper} {v : Value} (hC : chainB md ops z = true) (hiz : i < z) (hi : ops[i]? = some oi) (hsel : ∀ (j : Nat) (o : Oper) cs b, ops[j]? = some o → o.op ≠ .select cs b)
    (hQ : ∀ c a w, Q (.panic c) (a.put oi.dst v) w → Q (.panic c) a w) :
    ∀ (fuel : Nat) (listed : Array Bool) (a : Act) (w : World), Cl md ops listed →
      (∀ j oj, ops[j]? = some oj → j ≠ i → listed.getD j true = false → (∀ e ∈ oj.after, Region.binds md e = true → e.on ≠ i) → oi.apart ops oj = true) →
      i ∈ Region.ready md ops listed → YieldsIf P ops S oi v a → S w →
      wpAnyL P md ops Q S z fuel (listed.setIfInBounds i true) (a.put oi.dst v) w → wpAnyL P md ops Q S z (fuel + 1) listed a w := by
  intro fuel
  induction fuel with
  | zero =>
    intro listed a w hcl _ hr hy hS H
    refine ⟨fun h => (by rw [h] at hr; cases hr), fun j hj => ?_⟩
    by_cases hji : j = i
    · subst hji; exact hy.wpOp hi hS ⟨fun _ => hS, H⟩
    · have := ready_mono hj hji
      rw [H.1] at this
      cases this
  | succ fuel ih =>
    intro listed a w hcl hfree hr hy hS H
    refine ⟨fun h => (by rw [h] at hr; cases hr), fun j hj => ?_⟩
    by_cases hji : j = i
    · subst hji; exact hy.wpOp hi hS ⟨fun _ => hS, H⟩
    · have hjz : j ≠ z := fun e => by
        subst e
        have h1 := all_listed hC hcl hj j i (by omega) hiz
        rw [(mem_ready.1 hr).1] at h1
        cases h1
      have h1 := H.2 j (ready_mono hj hji)
      obtain ⟨hjun, oj, hoj, hall⟩ := mem_ready.1 hj
      have hnot : ∀ e ∈ oj.after, Region.binds md e = true → e.on ≠ i := fun e he hb heq => by
        have h1 := hall e he hb
        have h0 := (mem_ready.1 hr).1
        rw [heq] at h1
        rw [getD_tf h1] at h0
        cases h0
      have h2 := wpOp_putIf hoj (hfree j oj hoj hji hjun hnot) (fun cs b => hsel i oi cs b hi) (fun cs b => hsel j oj cs b hoj) hQ hy h1
      have hfree' : ∀ k ok, ops[k]? = some ok → k ≠ i → (listed.setIfInBounds j true).getD k true = false →
          (∀ e ∈ ok.after, Region.binds md e = true → e.on ≠ i) → oi.apart ops ok = true := fun k ok hk hki hun hno => by
        refine hfree k ok hk hki ?_ hno
        by_cases hjk : j = k
        · subst hjk; exact hjun
        · rw [getD_set_ne true hjk] at hun; exact hun
      refine wpOp_mono (fun a' w' h3 => ⟨h3.2.1, ih (listed.setIfInBounds j true) a' w' (cl_step hcl hj) hfree' (ready_mono hr (Ne.symm hji)) h3.1 (h3.2.1 hjz) ?_⟩) h2
      rw [Array.setIfInBounds_comm _ _ hji]
      exact h3.2.2

theorem wpAnyL_take {i : Nat} {oi : Oper} {v : Value} {fuel : Nat} {listed : Array Bool} {a : Act} {w : World} (hi : ops[i]? = some oi)
    (hC : chainB md ops z = true) (hcl : closedB md ops listed = true) (hiz : decide (i < z) = true)
    (hs : Region.noSelect ops = true) (hf : Region.free md ops listed i = true) (hr : (Region.ready md ops listed).contains i = true)
    (hQ : ∀ c a w, Q (.panic c) (a.put oi.dst v) w → Q (.panic c) a w) (hy : YieldsIf P ops S oi v a) (hS : S w)
    (h : wpAnyL P md ops Q S z fuel (listed.setIfInBounds i true) (a.put oi.dst v) w) : wpAnyL P md ops Q S z (fuel + 1) listed a w :=
  wpAnyL_first hC (of_decide_eq_true hiz) hi (Region.noSelect_spec hs) hQ fuel listed a w (closed_spec hcl) (Region.free_spec hi hf) (by simpa using hr) hy hS h

def AllReadyL (P : Program) (md : Region.Mode) (ops : Array Oper) (Q : Exit → Act → World → Prop) (S : World → Prop) (z fuel : Nat) (listed : Array Bool) (a : Act) (w : World) (rs : List Nat) : Prop :=
  ∀ i ∈ rs, wpOp P ops Q i (fun a' w' => (i ≠ z → S w') ∧ wpAnyL P md ops Q S z fuel (listed.setIfInBounds i true) a' w') a w

theorem AllReadyL.nil {fuel : Nat} {listed : Array Bool} {a : Act} {w : World} : AllReadyL P md ops Q S z fuel listed a w [] := fun _ h => by cases h

theorem AllReadyL.cons {fuel : Nat} {listed : Array Bool} {a : Act} {w : World} {i : Nat} {o : Oper} {rs : List Nat} (ho : ops[i]? = some o)
    (h : ∀ K' : Act → World → Prop, Shut (∀ a w, S w → (S w → wpAnyL P md ops Q S z fuel (listed.setIfInBounds i true) a w) → K' a w) → if Region.wanted o (yielded ops a.tmps) = true then Oper.wp P o a w K' Q else K' (a.put o.dst undef) w)
    (hs : AllReadyL P md ops Q S z fuel listed a w rs) : AllReadyL P md ops Q S z fuel listed a w (i :: rs) := fun j hj => by
  rcases List.mem_cons.1 hj with rfl | hj
  · exact wpOp_step ho (fun K' hK => h K' (fun a w hS hW => hK a w ⟨fun _ => hS, hW hS⟩))
  · exact hs j hj

/-- The last operation comes up: nothing is asked of the world behind it. -/
theorem AllReadyL.last {fuel : Nat} {listed : Array Bool} {a : Act} {w : World} {o : Oper} (ho : ops[z]? = some o)
    (h : ∀ K' : Act → World → Prop, Shut (∀ a w, wpAnyL P md ops Q S z fuel (listed.setIfInBounds z true) a w → K' a w) → if Region.wanted o (yielded ops a.tmps) = true then Oper.wp P o a w K' Q else K' (a.put o.dst undef) w) : AllReadyL P md ops Q S z fuel listed a w [z] := fun j hj => by
  rcases List.mem_cons.1 hj with rfl | hj
  · exact wpOp_step ho (fun K' hK => h K' (fun a w hW => hK a w ⟨fun q => absurd rfl q, hW⟩))
  · cases hj

theorem wpAnyL_ready {rs : List Nat} {fuel : Nat} {listed : Array Bool} {a : Act} {w : World} (hr : Region.ready md ops listed = rs) (hne : rs ≠ [])
    (h : AllReadyL P md ops Q S z fuel listed a w rs) : wpAnyL P md ops Q S z (fuel + 1) listed a w := ⟨fun h0 => absurd (hr ▸ h0) hne, hr ▸ h⟩

theorem wpAnyL_done {listed : Array Bool} {a : Act} {w : World} (hr : Region.ready md ops listed = []) (h : Q .normal a w) : ∀ fuel, wpAnyL P md ops Q S z fuel listed a w
  | 0 => ⟨hr, h⟩
  | _ + 1 => ⟨fun _ => h, by rw [hr]; simp⟩

/-- The beginning. -/
theorem wp_region_L (z : Nat) (S : World → Prop) {id : Nat} {a : Act} {w : World} (hm : P.follows .mixedOrders = true) (hS : S w.drew)
    (h : S w.drew → wpAnyL P .any ops Q S z ops.size (Array.replicate ops.size false) a w.drew) : (Code.region id ops true).wp P Q a w :=
  wp_region_any hm (wpAny_of_L _ _ _ _ (h hS))

end
end Go.Proofs.Ytabkhoiccjkghaa

namespace Go.Proofs.Ytabkhoiccjkghaa
open Go Go.RowKit Go.Lib Go.Maps
set_option linter.unusedVariables false
set_option linter.unusedSimpArgs false
attribute [-instance] List.instBEq instBEqProd

set_option maxHeartbeats 8000000 in
set_option maxRecDepth 100000 in
theorem rbuild_ok (v : Value) (A : Aut) (w : World) (h : AR w v A) (G : Good A) (h64 : A.ac.length ≤ 64) : Calls Try.prog 24 #[v] w (RbQ A w) := by
  obtain ⟨an, cn, aa, ca, e, h1, h2⟩ := h.is
  have HGd : Hid (Good A) := G
  have hks := G.ks
  have hn1 := G.n1
  have hnx0 : 0 < A.nx.length := by have := (G.at (s := 0) (c := 0) (by omega) (by omega)).1; omega
  obtain ⟨gn, on, rfl, hgn, _⟩ := h1.int hnx0
  obtain ⟨ga, oa, rfl, hga, _⟩ := h2.bool (i := 0) (by omega)
  have hnb : A.nx.length ≤ 512 := by
    have h3 : (A.ac.length : Int) * A.k ≤ 64 * 8 := Int.mul_le_mul (by omega) (by omega) (by omega) (by omega)
    have := G.len
    omega
  have CN : Hid (∀ y p, Below w.heap.size w y → p < A.nx.length → y.cell? ⟨gn, on + p, none⟩ = some (.int .i64 (A.nx.getD p 0))) := fun y p hy hp => by
    obtain ⟨g', o', e', hg', hc'⟩ := h1.int hp
    simp only [Option.some.injEq, Addr.mk.injEq] at e'
    obtain ⟨rfl, rfl, _⟩ := e'
    rw [below_cellJ hy hg']
    exact hc'
  have HS1 : Hid (∀ y, Below w.heap.size w y → SR y (some ⟨gn, on, none⟩) (zC A.nx)) := fun y hy => h1.stay hy
  have HS2 : Hid (∀ y, Below w.heap.size w y → SR y (some ⟨ga, oa, none⟩) (bC A.ac)) := fun y hy => h2.stay hy
  have HCK : Hid (∀ y, Below w.heap.size w y → Calls Try.prog 45 #[v] y fun e w' => e = .returned (.int .i64 0) ∧ Below y.heap.size y w') := fun y hy => by
    have := racheck_any v A y (h.stay hy) (by omega) (by omega)
    rw [chkA_ok G] at this
    exact this
  subst e
  obtain ⟨W, hW⟩ : ∃ W, W = w.alloc (.cells #[.int .i64 A.k, .slice (some ⟨gn, on, none⟩) A.nx.length cn, .slice (some ⟨ga, oa, none⟩) A.ac.length ca] 25) := ⟨_, rfl⟩
  have HB1 : Hid (Below w.heap.size w W) := by show Below _ _ _; rw [hW]; exact below_new _ _
  have HBX1 : Hid (W.heap[w.heap.size]? = some (.cells #[.int .i64 A.k, .slice (some ⟨gn, on, none⟩) A.nx.length cn, .slice (some ⟨ga, oa, none⟩) A.ac.length ca] 25 (0, 0))) := by show _ = _; rw [hW]; exact heap_last _ _
  have HW1 : Hid (W = w.alloc (.cells #[.int .i64 A.k, .slice (some ⟨gn, on, none⟩) A.nx.length cn, .slice (some ⟨ga, oa, none⟩) A.ac.length ca] 25)) := hW
  have HL64 : Hid (A.ac.length ≤ 64) := h64
  clear hW h h1 h2 G hnx0 hgn hga
  go_enter Try.func24, Try.ntmps24
  go_wp2_with fail
  rw [← HW1.out]
  refine (HCK.out _ HB1.out).mono ?_
  rintro e w1 ⟨rfl, hb⟩
  have HB2 : Hid (Below w.heap.size w w1) := go_on HB1.out hb
  have hbx : w1.heap[w.heap.size]? = some (.cells #[.int .i64 A.k, .slice (some ⟨gn, on, none⟩) A.nx.length cn, .slice (some ⟨ga, oa, none⟩) A.ac.length ca] 25 (0, 0)) := (hb.block _ (Array.getElem?_eq_some_iff.1 HBX1.out).1).trans HBX1.out
  have HBX2 : Hid (w1.heap[w.heap.size]? = some (.cells #[.int .i64 A.k, .slice (some ⟨gn, on, none⟩) A.nx.length cn, .slice (some ⟨ga, oa, none⟩) A.ac.length ca] 25 (0, 0))) := hbx
  have cs2 : w1.cell? ⟨w.heap.size, 2, none⟩ = some (.slice (some ⟨ga, oa, none⟩) A.ac.length ca) := cell_at hbx rfl
  clear hb hbx
  have h64d : decide ((64 : Int) < (A.ac.length : Nat)) = false := decide_eq_false (by omega)
  have h64e : decide (64 < A.ac.length) = false := decide_eq_false (by omega)
  obtain ⟨i0, hi, hz0, hz1, hz2⟩ := info_parts Try.info_u8E
  go_wp2_with (at_make; refine wpList_make_full _ rfl _ _ 94 rfl w1.heap.size 5 i0 (.int .u8 0) 1 Try.underlying94 hi hz0 hz1 .i64 .i64 (A.ac.length : Int) (A.ac.length : Int) A.ac.length rfl rfl rfl rfl (by rw [hz2]; omega) (by unfold maxLen; omega) (by omega) ?_; intro w2 hown hgr)
  have HY2 : Hid (YP w2 w1.heap.size (stl A.ac.length) 0) := own_yp (stl_len _) hown
  have HB3 : Hid (Below w.heap.size w w2) := HB2.out.grown hgr HB2.out.size (fun b hb => by cases hb)
  have HBX3 : Hid (w2.heap[w.heap.size]? = some (.cells #[.int .i64 A.k, .slice (some ⟨gn, on, none⟩) A.nx.length cn, .slice (some ⟨ga, oa, none⟩) A.ac.length ca] 25 (0, 0))) := (hgr.block _ (Array.getElem?_eq_some_iff.1 HBX2.out).1 (by simp)).trans HBX2.out
  obtain ⟨g0, hg0⟩ : ∃ g, w1.heap.size = g := ⟨_, rfl⟩
  have HG0 : Hid (w.heap.size < g0) := by have := (Array.getElem?_eq_some_iff.1 HBX2.out).1; show _ < _; omega
  rw [hg0] at HY2
  rw [hg0]
  clear hown hgr cs2 HB2 HBX2 HB1 HBX1 HW1 HCK hg0
  clear w1 W
  go_loopw [7] (fun vs wr => ∃ s : Nat, vs = .int .i64 s ∧ s ≤ A.ac.length ∧ YP wr g0 (stl A.ac.length) s ∧ Below w.heap.size w wr ∧ wr.heap[w.heap.size]? = some (.cells #[.int .i64 A.k, .slice (some ⟨gn, on, none⟩) A.nx.length cn, .slice (some ⟨ga, oa, none⟩) A.ac.length ca] 25 (0, 0))) (fun vs _ => A.ac.length - (Go.RowKit.intOf vs).toNat)
  case atStart => exact ⟨0, rfl, Nat.zero_le _, HY2.out, HB3.out, HBX3.out⟩
  case round =>
   clear HY2 HB3 HBX3
   clear w2
   obtain ⟨s, rfl, hsn, hY, hB, hX⟩ := hrel
   have HY : Hid (YP wr g0 (stl A.ac.length) s) := hY
   have HB : Hid (Below w.heap.size w wr) := hB
   have HX : Hid (wr.heap[w.heap.size]? = some (.cells #[.int .i64 A.k, .slice (some ⟨gn, on, none⟩) A.nx.length cn, .slice (some ⟨ga, oa, none⟩) A.ac.length ca] 25 (0, 0))) := hX
   clear hY hB hX
   by_cases hlt : s < A.ac.length
   · have hsI : (s : Int) < A.ac.length := by omega
     have hsd : decide ((s : Int) < A.ac.length) = true := decide_eq_true hsI
     obtain ⟨hc, hf⟩ := HY.out.here (j := s) (by rw [stl_len]; exact hlt)
     have hw8 : IntKind.u8.wrap (s : Int) = (s : Int) := by rw [IntKind.wrap_u8]; omega
     have HYN : Hid (YP (wr.setCell ⟨g0, s, none⟩ (.int .u8 (s : Int))) g0 (stl A.ac.length) (s + 1)) := HY.out.put (by rw [stl_len]; exact hlt) (stl_im hlt)
     have HBN : Hid (Below w.heap.size w (wr.setCell ⟨g0, s, none⟩ (.int .u8 (s : Int)))) := HB.out.setCell (p := ⟨g0, s, none⟩) (by have := HG0.out; show w.heap.size ≤ g0; omega) _
     have HXN : Hid ((wr.setCell ⟨g0, s, none⟩ (.int .u8 (s : Int))).heap[w.heap.size]? = some (.cells #[.int .i64 A.k, .slice (some ⟨gn, on, none⟩) A.nx.length cn, .slice (some ⟨ga, oa, none⟩) A.ac.length ca] 25 (0, 0))) := (heap_set_other (by have := HG0.out; omega)).trans HX.out
     go_wp2_with fail
     go_roundw
     case rel => exact ⟨s + 1, by go_num, by omega, HYN.out, HBN.out, HXN.out⟩
     case measure => simp [Go.RowKit.intOf]; omega
   · have hsI : ¬ (s : Int) < A.ac.length := by omega
     have hsd : decide ((s : Int) < A.ac.length) = false := decide_eq_false hsI
     have hse : s = A.ac.length := by omega
     rw [hse] at HY
     clear hse hlt hsn
     go_upto_region 12 with fail
     go_cut [8] (fun v8 wx => ∃ (ob : Nat) (an2 : Option Addr) (cn2 : Nat) (aa2 : Option Addr) (ca2 : Nat), v8 = .pointer (some ⟨ob, 0, none⟩) ∧ ∃ wz, wz = wx ∧ B0 w #[.int .i64 A.k, .slice (some ⟨gn, on, none⟩) A.nx.length cn, .slice (some ⟨ga, oa, none⟩) A.ac.length ca] ob A an2 cn2 aa2 ca2 wz ∧ YP wz g0 (stl A.ac.length) A.ac.length)
     case first =>
       have HZL : Hid ((zC A.nx).length = A.nx.length) := zC_len A.nx
       have HBL : Hid ((bC A.ac).length = A.ac.length) := bC_len A.ac
       have HOC : Hid (∀ u ∈ zC A.nx, u.oneCell' = true) := fun u hu => by
         obtain ⟨z, _, rfl⟩ := List.mem_map.1 hu
         rfl
       have HOB : Hid (∀ u ∈ bC A.ac, u.oneCell' = true) := fun u hu => by
         obtain ⟨z, _, rfl⟩ := List.mem_map.1 hu
         rfl
       obtain ⟨i1, hj, hy0, hy1, hy2⟩ := info_parts Try.info_int
       obtain ⟨i2, hk, hx0, hx1, hx2⟩ := info_parts Try.info_bool
       obtain ⟨y0, hyy⟩ : ∃ y0, y0 = wr.drew := ⟨_, rfl⟩
       have HB0 : Hid (Below w.heap.size w y0) := by show Below _ _ _; rw [hyy]; exact HB.out.drew
       have HY0 : Hid (YP y0 g0 (stl A.ac.length) A.ac.length) := by show YP _ _ _ _; rw [hyy]; exact HY.out.below (Below.refl _ _).drew
       have hS0 : y0.heap[w.heap.size]? = some (.cells #[.int .i64 A.k, .slice (some ⟨gn, on, none⟩) A.nx.length cn, .slice (some ⟨ga, oa, none⟩) A.ac.length ca] 25 (0, 0)) := by rw [hyy]; exact HX.out
       clear HB HY HX
       refine wp_region_L 13 (fun y => y.heap[w.heap.size]? = some (.cells #[.int .i64 A.k, .slice (some ⟨gn, on, none⟩) A.nx.length cn, .slice (some ⟨ga, oa, none⟩) A.ac.length ca] 25 (0, 0))) (by kernel_rfl) (by rw [← hyy]; exact hS0) (fun hH0 => ?_)
       rw [← hyy] at hH0 ⊢
       clear hS0 hyy
       refine wpAnyL_take (i := 0) (oi := { dst := some 40, op := Go.Op.fieldAddr 25 (Go.Operand.tmp 1) 0, type := 0, pos := "ref.go:45", after := #[], guard := none }) (v := ?_) rfl (by kernel_rfl) (by kernel_rfl) (by decide) (by kernel_rfl) (by kernel_rfl) (by kernel_rfl) (fun _ _ _ h => h) (Or.inl ⟨by rfl, ?_⟩) (by assumption) ?_
       rotate_left
       · intro w' hS; go_simp; (try with_reducible rfl)
       simp only [Act.put, List.setIfInBounds_toArray, List.set_cons_zero, List.set_cons_succ]
       refine wpAnyL_take (i := 1) (oi := { dst := some 41, op := Go.Op.load 3 (Go.Operand.tmp 40), type := 3, pos := "ref.go:45", after := #[{ on := 0, ground := Go.Ground.data }], guard := none }) (v := .int .i64 A.k) rfl (by kernel_rfl) (by kernel_rfl) (by decide) (by kernel_rfl) (by kernel_rfl) (by kernel_rfl) (fun _ _ _ h => h) (Or.inl ⟨by rfl, ?_⟩) (by assumption) ?_
       · intro w' hS; have hz := cell_at (j := 0) hS rfl; go_simp
       simp only [Act.put, List.setIfInBounds_toArray, List.set_cons_zero, List.set_cons_succ]
       refine wpAnyL_take (i := 3) (oi := { dst := some 43, op := Go.Op.fieldAddr 25 (Go.Operand.tmp 1) 1, type := 0, pos := "ref.go:45", after := #[], guard := none }) (v := ?_) rfl (by kernel_rfl) (by kernel_rfl) (by decide) (by kernel_rfl) (by kernel_rfl) (by kernel_rfl) (fun _ _ _ h => h) (Or.inl ⟨by rfl, ?_⟩) (by assumption) ?_
       rotate_left
       · intro w' hS; go_simp; (try with_reducible rfl)
       simp only [Act.put, List.setIfInBounds_toArray, List.set_cons_zero, List.set_cons_succ]
       refine wpAnyL_take (i := 4) (oi := { dst := some 44, op := Go.Op.load 22 (Go.Operand.tmp 43), type := 22, pos := "ref.go:45", after := #[{ on := 3, ground := Go.Ground.data }], guard := none }) (v := .slice (some ⟨gn, on, none⟩) A.nx.length cn) rfl (by kernel_rfl) (by kernel_rfl) (by decide) (by kernel_rfl) (by kernel_rfl) (by kernel_rfl) (fun _ _ _ h => h) (Or.inl ⟨by rfl, ?_⟩) (by assumption) ?_
       · intro w' hS; have hz := cell_at (j := 1) hS rfl; go_simp
       simp only [Act.put, List.setIfInBounds_toArray, List.set_cons_zero, List.set_cons_succ]
       refine wpAnyL_take (i := 7) (oi := { dst := some 47, op := Go.Op.fieldAddr 25 (Go.Operand.tmp 1) 2, type := 0, pos := "ref.go:45", after := #[], guard := none }) (v := ?_) rfl (by kernel_rfl) (by kernel_rfl) (by decide) (by kernel_rfl) (by kernel_rfl) (by kernel_rfl) (fun _ _ _ h => h) (Or.inl ⟨by rfl, ?_⟩) (by assumption) ?_
       rotate_left
       · intro w' hS; go_simp; (try with_reducible rfl)
       simp only [Act.put, List.setIfInBounds_toArray, List.set_cons_zero, List.set_cons_succ]
       refine wpAnyL_take (i := 8) (oi := { dst := some 48, op := Go.Op.load 23 (Go.Operand.tmp 47), type := 23, pos := "ref.go:45", after := #[{ on := 7, ground := Go.Ground.data }], guard := none }) (v := .slice (some ⟨ga, oa, none⟩) A.ac.length ca) rfl (by kernel_rfl) (by kernel_rfl) (by decide) (by kernel_rfl) (by kernel_rfl) (by kernel_rfl) (fun _ _ _ h => h) (Or.inl ⟨by rfl, ?_⟩) (by assumption) ?_
       · intro w' hS; have hz := cell_at (j := 2) hS rfl; go_simp
       simp only [Act.put, List.setIfInBounds_toArray, List.set_cons_zero, List.set_cons_succ]
       refine wpAnyL_ready (rs := [2, 6]) (by kernel_rfl) (by simp) ?_
       refine AllReadyL.cons rfl (fun KQ hK => ?_) (AllReadyL.cons rfl (fun KQ hK => ?_) AllReadyL.nil)
       · skip
         go_simp
         have HB1 : Hid (Below w.heap.size w (y0.alloc (.cells #[] 3))) := go_on HB0.out (below_new _ _)
         have HY1 : Hid (YP (y0.alloc (.cells #[] 3)) g0 (stl A.ac.length) A.ac.length) := HY0.out.below (below_new _ _)
         have RI1 : Hid ((y0.alloc (.cells #[] 3)).ownsRow w.heap.size 3 1 (.slice (some ⟨y0.heap.size, 0, none⟩) 0 0) 0 []) := by show World.ownsRow _ _ _ _ _ _ _; have := World.ownsRow_made (base := w.heap.size) (e := 3) (size := 1) y0 #[] 0 HB0.out.size (by unfold maxLen; omega) rfl; simpa using this
         refine hK.out _ _ ((heap_allo (Array.getElem?_eq_some_iff.1 hH0).1 _).trans hH0) (fun hH1 => ?_)
         clear hK KQ
         refine wpAnyL_ready (rs := [5, 6]) (by kernel_rfl) (by simp) ?_
         refine AllReadyL.cons rfl (fun KQ hK => ?_) (AllReadyL.cons rfl (fun KQ hK => ?_) AllReadyL.nil)
         · skip
           rw [if_pos (by rfl)]
           refine wp_append_sr _ _ 22 rfl w.heap.size 3 i1 (.int .i64 0) 8 Try.underlying22 hj hy0 hy1 hy2 rfl _ rfl RI1.out (some ⟨gn, on, none⟩) cn (zC A.nx) (by rw [HZL.out]; rfl) (HS1.out _ HB1.out) (fun h => by cases h) HOC.out (by rw [HZL.out]; unfold maxLen; omega) (by rw [HZL.out]; omega) HB1.out.size ?_
           intro v2 w2 ho hg
           have ho2 : w2.ownsRow w.heap.size 3 1 v2 A.nx.length (zC A.nx) := by rw [← HZL.out]; exact ho
           obtain ⟨va2, vc2, rfl⟩ := own_shape ho2
           have RI2 : Hid (w2.ownsRow w.heap.size 3 1 (.slice va2 A.nx.length vc2) A.nx.length (zC A.nx)) := ho2
           have HB2 : Hid (Below w.heap.size w w2) := HB1.out.grown hg HB1.out.size (fun b hb => (RI1.out.lt b hb).1)
           have HY2 : Hid (YP w2 g0 (stl A.ac.length) A.ac.length) := HY1.out.grown RI1.out hg (by decide)
           refine hK.out _ _ ((grown_keep RI1.out hg hH1 (by decide)).trans hH1) (fun hH2 => ?_)
           clear ho ho2 hg
           clear hK KQ
           refine wpAnyL_ready (rs := [6]) (by kernel_rfl) (by simp) ?_
           refine AllReadyL.cons rfl (fun KQ hK => ?_) AllReadyL.nil
           go_simp
           have HB3 : Hid (Below w.heap.size w (w2.alloc (.cells #[] 4))) := go_on HB2.out (below_new _ _)
           have HY3 : Hid (YP (w2.alloc (.cells #[] 4)) g0 (stl A.ac.length) A.ac.length) := HY2.out.below (below_new _ _)
           have RI3 : Hid ((w2.alloc (.cells #[] 4)).ownsRow w.heap.size 3 1 (.slice va2 A.nx.length vc2) A.nx.length (zC A.nx)) := RI2.out.alloc _
           have RB3 : Hid ((w2.alloc (.cells #[] 4)).ownsRow w.heap.size 4 1 (.slice (some ⟨w2.heap.size, 0, none⟩) 0 0) 0 []) := by show World.ownsRow _ _ _ _ _ _ _; have := World.ownsRow_made (base := w.heap.size) (e := 4) (size := 1) w2 #[] 0 HB2.out.size (by unfold maxLen; omega) rfl; simpa using this
           refine hK.out _ _ ((heap_allo (Array.getElem?_eq_some_iff.1 hH2).1 _).trans hH2) (fun hH3 => ?_)
           clear hK KQ
           refine wpAnyL_ready (rs := [9]) (by kernel_rfl) (by simp) ?_
           refine AllReadyL.cons rfl (fun KQ hK => ?_) AllReadyL.nil
           rw [if_pos (by rfl)]
           refine wp_append_sr _ _ 23 rfl w.heap.size 4 i2 (.bool false) 1 Try.underlying23 hk hx0 hx1 hx2 rfl _ rfl RB3.out (some ⟨ga, oa, none⟩) ca (bC A.ac) (by rw [HBL.out]; rfl) (HS2.out _ HB3.out) (fun h => by cases h) HOB.out (by rw [HBL.out]; unfold maxLen; omega) (by rw [HBL.out]; omega) HB3.out.size ?_
           intro v4 w4 ho hg
           have ho2 : w4.ownsRow w.heap.size 4 1 v4 A.ac.length (bC A.ac) := by rw [← HBL.out]; exact ho
           obtain ⟨va4, vc4, rfl⟩ := own_shape ho2
           have RB4 : Hid (w4.ownsRow w.heap.size 4 1 (.slice va4 A.ac.length vc4) A.ac.length (bC A.ac)) := ho2
           have HB4 : Hid (Below w.heap.size w w4) := HB3.out.grown hg HB3.out.size (fun b hb => (RB3.out.lt b hb).1)
           have HY4 : Hid (YP w4 g0 (stl A.ac.length) A.ac.length) := HY3.out.grown RB3.out hg (by decide)
           have RI4 : Hid (w4.ownsRow w.heap.size 3 1 (.slice va2 A.nx.length vc2) A.nx.length (zC A.nx)) := own_keep RI3.out (fun b c _ hc => grown_keep RB3.out hg hc (by decide))
           refine hK.out _ _ ((grown_keep RB3.out hg hH3 (by decide)).trans hH3) (fun hH4 => ?_)
           clear ho ho2 hg
           clear hK KQ
           refine wpAnyL_take (i := 10) (oi := { dst := some 50, op := Go.Op.build 25 #[(0, Go.Operand.tmp 41), (1, Go.Operand.tmp 45), (2, Go.Operand.tmp 49)], type := 25, pos := "ref.go:45", after := #[{ on := 1, ground := Go.Ground.data }, { on := 5, ground := Go.Ground.data }, { on := 9, ground := Go.Ground.data }], guard := none }) (v := ?_) rfl (by kernel_rfl) (by kernel_rfl) (by decide) (by kernel_rfl) (by kernel_rfl) (by kernel_rfl) (fun _ _ _ h => h) (Or.inl ⟨by rfl, ?_⟩) (by assumption) ?_
           rotate_left
           · intro w' hS; go_simp; (try with_reducible rfl)
           simp only [Act.put, List.setIfInBounds_toArray, List.set_cons_zero, List.set_cons_succ]
           refine wpAnyL_take (i := 11) (oi := { dst := some 51, op := Go.Op.build 54 #[(0, Go.Operand.tmp 50)], type := 54, pos := "ref.go:45", after := #[{ on := 10, ground := Go.Ground.data }], guard := none }) (v := ?_) rfl (by kernel_rfl) (by kernel_rfl) (by decide) (by kernel_rfl) (by kernel_rfl) (by kernel_rfl) (fun _ _ _ h => h) (Or.inl ⟨by rfl, ?_⟩) (by assumption) ?_
           rotate_left
           · intro w' hS; go_simp; (try with_reducible rfl)
           simp only [Act.put, List.setIfInBounds_toArray, List.set_cons_zero, List.set_cons_succ]
           refine wpAnyL_ready (rs := [12]) (by kernel_rfl) (by simp) ?_
           refine AllReadyL.cons rfl (fun KQ hK => ?_) AllReadyL.nil
           go_simp
           refine hK.out _ _ ((heap_allo (Array.getElem?_eq_some_iff.1 hH4).1 _).trans hH4) (fun hH5 => ?_)
           clear hK KQ
           refine wpAnyL_ready (rs := [13]) (by kernel_rfl) (by simp) ?_
           refine AllReadyL.last rfl (fun KQ hK => ?_)
           go_simp
           refine hK.out _ _ ?_
           clear hK KQ
           refine wpAnyL_done (by kernel_rfl) ?_ _
           go_wp2_with fail
           go_meet
           exact ⟨w4.heap.size, va2, vc2, va4, vc4, rfl, _, rfl, ⟨heap_last _ _, RI4.out.alloc _, RB4.out.alloc _, HB4.out.size, go_on HB4.out (below_new _ _), hH5⟩, HY4.out.below (below_new _ _)⟩
         · skip
           go_simp
           have HB2 : Hid (Below w.heap.size w ((y0.alloc (.cells #[] 3)).alloc (.cells #[] 4))) := go_on HB1.out (below_new _ _)
           have HY2 : Hid (YP ((y0.alloc (.cells #[] 3)).alloc (.cells #[] 4)) g0 (stl A.ac.length) A.ac.length) := HY1.out.below (below_new _ _)
           have RI2 : Hid (((y0.alloc (.cells #[] 3)).alloc (.cells #[] 4)).ownsRow w.heap.size 3 1 (.slice (some ⟨y0.heap.size, 0, none⟩) 0 0) 0 []) := RI1.out.alloc _
           have RB2 : Hid (((y0.alloc (.cells #[] 3)).alloc (.cells #[] 4)).ownsRow w.heap.size 4 1 (.slice (some ⟨y0.heap.size + 1, 0, none⟩) 0 0) 0 []) := by show World.ownsRow _ _ _ _ _ _ _; have := World.ownsRow_made (base := w.heap.size) (e := 4) (size := 1) (y0.alloc (.cells #[] 3)) #[] 0 HB1.out.size (by unfold maxLen; omega) rfl; simpa using this
           refine hK.out _ _ ((heap_allo (Array.getElem?_eq_some_iff.1 hH1).1 _).trans hH1) (fun hH2 => ?_)
           clear hK KQ
           refine wpAnyL_ready (rs := [5]) (by kernel_rfl) (by simp) ?_
           refine AllReadyL.cons rfl (fun KQ hK => ?_) AllReadyL.nil
           rw [if_pos (by rfl)]
           refine wp_append_sr _ _ 22 rfl w.heap.size 3 i1 (.int .i64 0) 8 Try.underlying22 hj hy0 hy1 hy2 rfl _ rfl RI2.out (some ⟨gn, on, none⟩) cn (zC A.nx) (by rw [HZL.out]; rfl) (HS1.out _ HB2.out) (fun h => by cases h) HOC.out (by rw [HZL.out]; unfold maxLen; omega) (by rw [HZL.out]; omega) HB2.out.size ?_
           intro v3 w3 ho hg
           have ho2 : w3.ownsRow w.heap.size 3 1 v3 A.nx.length (zC A.nx) := by rw [← HZL.out]; exact ho
           obtain ⟨va3, vc3, rfl⟩ := own_shape ho2
           have RI3 : Hid (w3.ownsRow w.heap.size 3 1 (.slice va3 A.nx.length vc3) A.nx.length (zC A.nx)) := ho2
           have HB3 : Hid (Below w.heap.size w w3) := HB2.out.grown hg HB2.out.size (fun b hb => (RI2.out.lt b hb).1)
           have HY3 : Hid (YP w3 g0 (stl A.ac.length) A.ac.length) := HY2.out.grown RI2.out hg (by decide)
           have RB3 : Hid (w3.ownsRow w.heap.size 4 1 (.slice (some ⟨y0.heap.size + 1, 0, none⟩) 0 0) 0 []) := own_keep RB2.out (fun b c _ hc => grown_keep RI2.out hg hc (by decide))
           refine hK.out _ _ ((grown_keep RI2.out hg hH2 (by decide)).trans hH2) (fun hH3 => ?_)
           clear ho ho2 hg
           clear hK KQ
           refine wpAnyL_ready (rs := [9]) (by kernel_rfl) (by simp) ?_
           refine AllReadyL.cons rfl (fun KQ hK => ?_) AllReadyL.nil
           rw [if_pos (by rfl)]
           refine wp_append_sr _ _ 23 rfl w.heap.size 4 i2 (.bool false) 1 Try.underlying23 hk hx0 hx1 hx2 rfl _ rfl RB3.out (some ⟨ga, oa, none⟩) ca (bC A.ac) (by rw [HBL.out]; rfl) (HS2.out _ HB3.out) (fun h => by cases h) HOB.out (by rw [HBL.out]; unfold maxLen; omega) (by rw [HBL.out]; omega) HB3.out.size ?_
           intro v4 w4 ho hg
           have ho2 : w4.ownsRow w.heap.size 4 1 v4 A.ac.length (bC A.ac) := by rw [← HBL.out]; exact ho
           obtain ⟨va4, vc4, rfl⟩ := own_shape ho2
           have RB4 : Hid (w4.ownsRow w.heap.size 4 1 (.slice va4 A.ac.length vc4) A.ac.length (bC A.ac)) := ho2
           have HB4 : Hid (Below w.heap.size w w4) := HB3.out.grown hg HB3.out.size (fun b hb => (RB3.out.lt b hb).1)
           have HY4 : Hid (YP w4 g0 (stl A.ac.length) A.ac.length) := HY3.out.grown RB3.out hg (by decide)
           have RI4 : Hid (w4.ownsRow w.heap.size 3 1 (.slice va3 A.nx.length vc3) A.nx.length (zC A.nx)) := own_keep RI3.out (fun b c _ hc => grown_keep RB3.out hg hc (by decide))
           refine hK.out _ _ ((grown_keep RB3.out hg hH3 (by decide)).trans hH3) (fun hH4 => ?_)
           clear ho ho2 hg
           clear hK KQ
           refine wpAnyL_take (i := 10) (oi := { dst := some 50, op := Go.Op.build 25 #[(0, Go.Operand.tmp 41), (1, Go.Operand.tmp 45), (2, Go.Operand.tmp 49)], type := 25, pos := "ref.go:45", after := #[{ on := 1, ground := Go.Ground.data }, { on := 5, ground := Go.Ground.data }, { on := 9, ground := Go.Ground.data }], guard := none }) (v := ?_) rfl (by kernel_rfl) (by kernel_rfl) (by decide) (by kernel_rfl) (by kernel_rfl) (by kernel_rfl) (fun _ _ _ h => h) (Or.inl ⟨by rfl, ?_⟩) (by assumption) ?_
           rotate_left
           · intro w' hS; go_simp; (try with_reducible rfl)
           simp only [Act.put, List.setIfInBounds_toArray, List.set_cons_zero, List.set_cons_succ]
           refine wpAnyL_take (i := 11) (oi := { dst := some 51, op := Go.Op.build 54 #[(0, Go.Operand.tmp 50)], type := 54, pos := "ref.go:45", after := #[{ on := 10, ground := Go.Ground.data }], guard := none }) (v := ?_) rfl (by kernel_rfl) (by kernel_rfl) (by decide) (by kernel_rfl) (by kernel_rfl) (by kernel_rfl) (fun _ _ _ h => h) (Or.inl ⟨by rfl, ?_⟩) (by assumption) ?_
           rotate_left
           · intro w' hS; go_simp; (try with_reducible rfl)
           simp only [Act.put, List.setIfInBounds_toArray, List.set_cons_zero, List.set_cons_succ]
           refine wpAnyL_ready (rs := [12]) (by kernel_rfl) (by simp) ?_
           refine AllReadyL.cons rfl (fun KQ hK => ?_) AllReadyL.nil
           go_simp
           refine hK.out _ _ ((heap_allo (Array.getElem?_eq_some_iff.1 hH4).1 _).trans hH4) (fun hH5 => ?_)
           clear hK KQ
           refine wpAnyL_ready (rs := [13]) (by kernel_rfl) (by simp) ?_
           refine AllReadyL.last rfl (fun KQ hK => ?_)
           go_simp
           refine hK.out _ _ ?_
           clear hK KQ
           refine wpAnyL_done (by kernel_rfl) ?_ _
           go_wp2_with fail
           go_meet
           exact ⟨w4.heap.size, va3, vc3, va4, vc4, rfl, _, rfl, ⟨heap_last _ _, RI4.out.alloc _, RB4.out.alloc _, HB4.out.size, go_on HB4.out (below_new _ _), hH5⟩, HY4.out.below (below_new _ _)⟩
       · skip
         go_simp
         have HB1 : Hid (Below w.heap.size w (y0.alloc (.cells #[] 4))) := go_on HB0.out (below_new _ _)
         have HY1 : Hid (YP (y0.alloc (.cells #[] 4)) g0 (stl A.ac.length) A.ac.length) := HY0.out.below (below_new _ _)
         have RB1 : Hid ((y0.alloc (.cells #[] 4)).ownsRow w.heap.size 4 1 (.slice (some ⟨y0.heap.size, 0, none⟩) 0 0) 0 []) := by show World.ownsRow _ _ _ _ _ _ _; have := World.ownsRow_made (base := w.heap.size) (e := 4) (size := 1) y0 #[] 0 HB0.out.size (by unfold maxLen; omega) rfl; simpa using this
         refine hK.out _ _ ((heap_allo (Array.getElem?_eq_some_iff.1 hH0).1 _).trans hH0) (fun hH1 => ?_)
         clear hK KQ
         refine wpAnyL_ready (rs := [2]) (by kernel_rfl) (by simp) ?_
         refine AllReadyL.cons rfl (fun KQ hK => ?_) AllReadyL.nil
         go_simp
         have HB2 : Hid (Below w.heap.size w ((y0.alloc (.cells #[] 4)).alloc (.cells #[] 3))) := go_on HB1.out (below_new _ _)
         have HY2 : Hid (YP ((y0.alloc (.cells #[] 4)).alloc (.cells #[] 3)) g0 (stl A.ac.length) A.ac.length) := HY1.out.below (below_new _ _)
         have RB2 : Hid (((y0.alloc (.cells #[] 4)).alloc (.cells #[] 3)).ownsRow w.heap.size 4 1 (.slice (some ⟨y0.heap.size, 0, none⟩) 0 0) 0 []) := RB1.out.alloc _
         have RI2 : Hid (((y0.alloc (.cells #[] 4)).alloc (.cells #[] 3)).ownsRow w.heap.size 3 1 (.slice (some ⟨y0.heap.size + 1, 0, none⟩) 0 0) 0 []) := by show World.ownsRow _ _ _ _ _ _ _; have := World.ownsRow_made (base := w.heap.size) (e := 3) (size := 1) (y0.alloc (.cells #[] 4)) #[] 0 HB1.out.size (by unfold maxLen; omega) rfl; simpa using this
         refine hK.out _ _ ((heap_allo (Array.getElem?_eq_some_iff.1 hH1).1 _).trans hH1) (fun hH2 => ?_)
         clear hK KQ
         refine wpAnyL_ready (rs := [5]) (by kernel_rfl) (by simp) ?_
         refine AllReadyL.cons rfl (fun KQ hK => ?_) AllReadyL.nil
         rw [if_pos (by rfl)]
         refine wp_append_sr _ _ 22 rfl w.heap.size 3 i1 (.int .i64 0) 8 Try.underlying22 hj hy0 hy1 hy2 rfl _ rfl RI2.out (some ⟨gn, on, none⟩) cn (zC A.nx) (by rw [HZL.out]; rfl) (HS1.out _ HB2.out) (fun h => by cases h) HOC.out (by rw [HZL.out]; unfold maxLen; omega) (by rw [HZL.out]; omega) HB2.out.size ?_
         intro v3 w3 ho hg
         have ho2 : w3.ownsRow w.heap.size 3 1 v3 A.nx.length (zC A.nx) := by rw [← HZL.out]; exact ho
         obtain ⟨va3, vc3, rfl⟩ := own_shape ho2
         have RI3 : Hid (w3.ownsRow w.heap.size 3 1 (.slice va3 A.nx.length vc3) A.nx.length (zC A.nx)) := ho2
         have HB3 : Hid (Below w.heap.size w w3) := HB2.out.grown hg HB2.out.size (fun b hb => (RI2.out.lt b hb).1)
         have HY3 : Hid (YP w3 g0 (stl A.ac.length) A.ac.length) := HY2.out.grown RI2.out hg (by decide)
         have RB3 : Hid (w3.ownsRow w.heap.size 4 1 (.slice (some ⟨y0.heap.size, 0, none⟩) 0 0) 0 []) := own_keep RB2.out (fun b c _ hc => grown_keep RI2.out hg hc (by decide))
         refine hK.out _ _ ((grown_keep RI2.out hg hH2 (by decide)).trans hH2) (fun hH3 => ?_)
         clear ho ho2 hg
         clear hK KQ
         refine wpAnyL_ready (rs := [9]) (by kernel_rfl) (by simp) ?_
         refine AllReadyL.cons rfl (fun KQ hK => ?_) AllReadyL.nil
         rw [if_pos (by rfl)]
         refine wp_append_sr _ _ 23 rfl w.heap.size 4 i2 (.bool false) 1 Try.underlying23 hk hx0 hx1 hx2 rfl _ rfl RB3.out (some ⟨ga, oa, none⟩) ca (bC A.ac) (by rw [HBL.out]; rfl) (HS2.out _ HB3.out) (fun h => by cases h) HOB.out (by rw [HBL.out]; unfold maxLen; omega) (by rw [HBL.out]; omega) HB3.out.size ?_
         intro v4 w4 ho hg
         have ho2 : w4.ownsRow w.heap.size 4 1 v4 A.ac.length (bC A.ac) := by rw [← HBL.out]; exact ho
         obtain ⟨va4, vc4, rfl⟩ := own_shape ho2
         have RB4 : Hid (w4.ownsRow w.heap.size 4 1 (.slice va4 A.ac.length vc4) A.ac.length (bC A.ac)) := ho2
         have HB4 : Hid (Below w.heap.size w w4) := HB3.out.grown hg HB3.out.size (fun b hb => (RB3.out.lt b hb).1)
         have HY4 : Hid (YP w4 g0 (stl A.ac.length) A.ac.length) := HY3.out.grown RB3.out hg (by decide)
         have RI4 : Hid (w4.ownsRow w.heap.size 3 1 (.slice va3 A.nx.length vc3) A.nx.length (zC A.nx)) := own_keep RI3.out (fun b c _ hc => grown_keep RB3.out hg hc (by decide))
         refine hK.out _ _ ((grown_keep RB3.out hg hH3 (by decide)).trans hH3) (fun hH4 => ?_)
         clear ho ho2 hg
         clear hK KQ
         refine wpAnyL_take (i := 10) (oi := { dst := some 50, op := Go.Op.build 25 #[(0, Go.Operand.tmp 41), (1, Go.Operand.tmp 45), (2, Go.Operand.tmp 49)], type := 25, pos := "ref.go:45", after := #[{ on := 1, ground := Go.Ground.data }, { on := 5, ground := Go.Ground.data }, { on := 9, ground := Go.Ground.data }], guard := none }) (v := ?_) rfl (by kernel_rfl) (by kernel_rfl) (by decide) (by kernel_rfl) (by kernel_rfl) (by kernel_rfl) (fun _ _ _ h => h) (Or.inl ⟨by rfl, ?_⟩) (by assumption) ?_
         rotate_left
         · intro w' hS; go_simp; (try with_reducible rfl)
         simp only [Act.put, List.setIfInBounds_toArray, List.set_cons_zero, List.set_cons_succ]
         refine wpAnyL_take (i := 11) (oi := { dst := some 51, op := Go.Op.build 54 #[(0, Go.Operand.tmp 50)], type := 54, pos := "ref.go:45", after := #[{ on := 10, ground := Go.Ground.data }], guard := none }) (v := ?_) rfl (by kernel_rfl) (by kernel_rfl) (by decide) (by kernel_rfl) (by kernel_rfl) (by kernel_rfl) (fun _ _ _ h => h) (Or.inl ⟨by rfl, ?_⟩) (by assumption) ?_
         rotate_left
         · intro w' hS; go_simp; (try with_reducible rfl)
         simp only [Act.put, List.setIfInBounds_toArray, List.set_cons_zero, List.set_cons_succ]
         refine wpAnyL_ready (rs := [12]) (by kernel_rfl) (by simp) ?_
         refine AllReadyL.cons rfl (fun KQ hK => ?_) AllReadyL.nil
         go_simp
         refine hK.out _ _ ((heap_allo (Array.getElem?_eq_some_iff.1 hH4).1 _).trans hH4) (fun hH5 => ?_)
         clear hK KQ
         refine wpAnyL_ready (rs := [13]) (by kernel_rfl) (by simp) ?_
         refine AllReadyL.last rfl (fun KQ hK => ?_)
         go_simp
         refine hK.out _ _ ?_
         clear hK KQ
         refine wpAnyL_done (by kernel_rfl) ?_ _
         go_wp2_with fail
         go_meet
         exact ⟨w4.heap.size, va3, vc3, va4, vc4, rfl, _, rfl, ⟨heap_last _ _, RI4.out.alloc _, RB4.out.alloc _, HB4.out.size, go_on HB4.out (below_new _ _), hH5⟩, HY4.out.below (below_new _ _)⟩
     case rest =>
      clear HY HB HX hsI hsd
      obtain ⟨ob, an2, cn2, aa2, ca2, rfl, wx, rfl, hB0, hY⟩ := hcut
      have HB0 : Hid (B0 w #[.int .i64 A.k, .slice (some ⟨gn, on, none⟩) A.nx.length cn, .slice (some ⟨ga, oa, none⟩) A.ac.length ca] ob A an2 cn2 aa2 ca2 wx) := hB0
      have hconv := conv_yp hY (stl_len _) (fun x hx => by unfold stl at hx; have := List.mem_range.1 hx; omega)
      obtain ⟨T0, hT0⟩ : ∃ T0, ib (stl A.ac.length) = T0 := ⟨_, rfl⟩
      have HT0 : Hid (ib (stl A.ac.length) = T0) := hT0
      rw [hT0] at hconv
      have hol := (Array.getElem?_eq_some_iff.1 hB0.out).1
      have q3 : (wx.alloc (.cells #[.string T0] 9)).cell? ⟨ob, 3, none⟩ = some (.slice none 0 0) := cell_at ((heap_allo hol _).trans hB0.out) rfl
      have f3 : (wx.alloc (.cells #[.string T0] 9)).frozen? ⟨ob, 3, none⟩ = false := frozen_blk ((heap_allo hol _).trans hB0.out) 3
      obtain ⟨y1, hy1⟩ : ∃ y1, y1 = (wx.alloc (.cells #[.string T0] 9)).setCell ⟨ob, 3, none⟩ (.slice (some ⟨wx.heap.size, 0, none⟩) 1 1) := ⟨_, rfl⟩
      have HY1 : Hid (y1 = (wx.alloc (.cells #[.string T0] 9)).setCell ⟨ob, 3, none⟩ (.slice (some ⟨wx.heap.size, 0, none⟩) 1 1)) := hy1
      have ob1 : y1.heap[ob]? = some (.cells #[.int .i64 A.k, .slice an2 A.nx.length cn2, .slice aa2 A.ac.length ca2, .slice (some ⟨wx.heap.size, 0, none⟩) 1 1, .slice none 0 0, .slice none 0 0] 54 (0, 0)) := by rw [hy1]; exact heap_set ((heap_allo hol _).trans hB0.out)
      have hs1 : y1.heap.size = wx.heap.size + 1 := by rw [hy1]; simp [World.setCell]
      have HS1z : Hid (y1.heap.size = wx.heap.size + 1) := hs1
      have OB1 : Hid (y1.heap[ob]? = some (.cells #[.int .i64 A.k, .slice an2 A.nx.length cn2, .slice aa2 A.ac.length ca2, .slice (some ⟨wx.heap.size, 0, none⟩) 1 1, .slice none 0 0, .slice none 0 0] 54 (0, 0))) := ob1
      have HOL : Hid (ob < wx.heap.size) := hol
      clear hB0 hY hT0 hol hy1 ob1 hs1
      go_upto_region 14 with fail
      rw [← HY1.out]
      have hol1 : ob < y1.heap.size := (Array.getElem?_eq_some_iff.1 OB1.out).1
      have q4 : (y1.alloc (.cells #[.string ⟨#[]⟩] 9)).cell? ⟨ob, 4, none⟩ = some (.slice none 0 0) := cell_at ((heap_allo hol1 _).trans OB1.out) rfl
      have f4 : (y1.alloc (.cells #[.string ⟨#[]⟩] 9)).frozen? ⟨ob, 4, none⟩ = false := frozen_blk ((heap_allo hol1 _).trans OB1.out) 4
      have HST : Hid (EB w #[.int .i64 A.k, .slice (some ⟨gn, on, none⟩) A.nx.length cn, .slice (some ⟨ga, oa, none⟩) A.ac.length ca] ob A an2 cn2 aa2 ca2 [stl A.ac.length] [[]] [] (.slice (some ⟨wx.heap.size, 0, none⟩) 1 1) (.slice (some ⟨wx.heap.size + 1, 0, none⟩) 1 1) (.slice none 0 0) ((y1.alloc (.cells #[.string ⟨#[]⟩] 9)).setCell ⟨ob, 4, none⟩ (.slice (some ⟨y1.heap.size, 0, none⟩) 1 1))) := EB.start HB0.out (stl A.ac.length) y1 _ (by rw [HT0.out]; exact HY1.out) (by rw [HS1z.out]; rfl)
      clear hconv q3 f3 hol1
      go_wp2_with fail
      clear q4 f4
      go_loopw [9, 10, 11, 12, 13] (fun v9 _ _ _ _ wr => ∃ (i : Nat) (M Ws : List (List Nat)) (W : List (Nat × Nat)) (N : List Nat) (vi vw vn : Value) (f : Nat), v9 = .int .i64 i ∧ i ≤ M.length ∧ EB w #[.int .i64 A.k, .slice (some ⟨gn, on, none⟩) A.nx.length cn, .slice (some ⟨ga, oa, none⟩) A.ac.length ca] ob A an2 cn2 aa2 ca2 M Ws N vi vw vn wr ∧ MSs A i 0 M W N f ∧ WSo A.k.toNat M Ws N ∧ Sh A.ac.length M) (fun v9 _ _ _ _ _ => 513 - (Go.RowKit.intOf v9).toNat)
      case atStart => exact ⟨0, _, _, _, _, _, _, _, _, rfl, Nat.zero_le _, HST.out, MSs.start A, WSo.start _ _, Sh.start _⟩
      case round =>
       clear HST HB0 HT0 HY1 HS1z OB1 HOL
       obtain ⟨i, M, Ws, W, N, vi, vw, vn, f, rfl, hiM, hX, hM, hWs, hSh⟩ := hrel
       have HSH : Hid (Sh A.ac.length M) := hSh
       obtain ⟨wr0, hwr0⟩ : ∃ z, z = wr := ⟨_, rfl⟩
       subst hwr0
       have HX : Hid (EB w #[.int .i64 A.k, .slice (some ⟨gn, on, none⟩) A.nx.length cn, .slice (some ⟨ga, oa, none⟩) A.ac.length ca] ob A an2 cn2 aa2 ca2 M Ws N vi vw vn wr0) := hX
       have HM : Hid (MSs A i 0 M W N f) := hM
       have HWs : Hid (WSo A.k.toNat M Ws N) := hWs
       obtain ⟨wa, wc, rfl⟩ := own_shape hX.rb.wds
       have c4 : wr0.cell? ⟨ob, 4, none⟩ = some (.slice wa Ws.length wc) := cell_at hX.rb.box rfl
       have hwl := hWs.len
       rw [hwl] at c4
       have HWL : Hid (Ws.length = M.length) := hwl
       clear hwl hX hM hWs hSh
       have hmo := HM.out.most
       by_cases hlt : i < M.length
       · have hiI : (i : Int) < M.length := by omega
         have hid : decide ((i : Int) < M.length) = true := decide_eq_true hiI
         obtain ⟨l, hl⟩ : ∃ l, M[i]? = some l := ⟨_, List.getElem?_eq_getElem hlt⟩
         have HL0 : Hid (M[i]? = some l) := hl
         clear hl
         go_wp2_with fail
         clear c4
         go_loopw [10, 11, 12, 13] (fun v10 _ _ _ wr => ∃ (c : Nat) (M Ws : List (List Nat)) (W : List (Nat × Nat)) (N : List Nat) (vi vw vn : Value) (f : Nat), v10 = .int .i64 c ∧ c ≤ A.k.toNat ∧ EB w #[.int .i64 A.k, .slice (some ⟨gn, on, none⟩) A.nx.length cn, .slice (some ⟨ga, oa, none⟩) A.ac.length ca] ob A an2 cn2 aa2 ca2 M Ws N vi vw vn wr ∧ MSs A i c M W N f ∧ WSo A.k.toNat M Ws N ∧ M[i]? = some l ∧ Sh A.ac.length M) (fun v10 _ _ _ _ => A.k.toNat - (Go.RowKit.intOf v10).toNat)
         case atStart => exact ⟨0, _, _, _, _, _, _, _, _, rfl, Nat.zero_le _, HX.out, HM.out, HWs.out, HL0.out, HSH.out⟩
         case round =>
          clear HX HM HWs HL0 hmo HWL hid
          obtain ⟨c, M2, Ws2, W2, N2, vi2, vw2, vn2, f2, rfl, hcK, hX, hM, hWs, hMi, hSh⟩ := hrel
          obtain ⟨wr3, h3⟩ : ∃ z, z = wr := ⟨_, rfl⟩
          subst h3
          have HX : Hid (EB w #[.int .i64 A.k, .slice (some ⟨gn, on, none⟩) A.nx.length cn, .slice (some ⟨ga, oa, none⟩) A.ac.length ca] ob A an2 cn2 aa2 ca2 M2 Ws2 N2 vi2 vw2 vn2 wr3) := hX
          have HM : Hid (MSs A i c M2 W2 N2 f2) := hM
          have HWs : Hid (WSo A.k.toNat M2 Ws2 N2) := hWs
          have HMI : Hid (M2[i]? = some l) := hMi
          have HSH : Hid (Sh A.ac.length M2) := hSh
          have ck : wr3.cell? ⟨w.heap.size, 0, none⟩ = some (.int .i64 A.k) := cell_at hX.box rfl
          clear hX hM hWs hMi hSh
          have hks2 := HGd.out.ks
          by_cases hlt3 : c < A.k.toNat
          · have hcI : (c : Int) < A.k := by omega
            have hcd : decide ((c : Int) < A.k) = true := decide_eq_true hcI
            have HLS : Hid (l.length = A.ac.length ∧ ∀ x ∈ l, x < A.ac.length) := HSH.out l (List.mem_of_getElem? HMI.out)
            obtain ⟨t, ht⟩ : ∃ t, mD A l c = t := ⟨_, rfl⟩
            have HT : Hid (mD A l c = t) := ht
            have HTS : Hid (t.length = A.ac.length ∧ ∀ x ∈ t, x < A.ac.length) := by show _ ∧ _; rw [← ht]; exact mD_sh HGd.out HLS.out hlt3
            clear ht
            have hn64 := HL64.out
            go_wp2_with (at_make; refine wpList_make_full _ rfl _ _ 94 rfl wr3.heap.size 5 i0 (.int .u8 0) 1 Try.underlying94 hi hz0 hz1 .i64 .i64 (A.ac.length : Int) (A.ac.length : Int) A.ac.length rfl rfl rfl rfl (by rw [hz2]; omega) (by unfold maxLen; omega) (by omega) ?_; intro w4 hown hgr)
            have HY4 : Hid (YP w4 wr3.heap.size t 0) := own_yp HTS.out.1 hown
            have HB4 : Hid (Below wr3.heap.size wr3 w4) := (Below.refl _ _).grown hgr (Nat.le_refl _) (fun b hb => by cases hb)
            obtain ⟨g, hg⟩ : ∃ g, wr3.heap.size = g := ⟨_, rfl⟩
            have HG : Hid (wr3.heap.size = g) := hg
            rw [hg] at HY4
            rw [hg]
            clear hown hgr ck hg
            go_loopw [12] (fun vs wr => ∃ s : Nat, vs = .int .i64 s ∧ s ≤ A.ac.length ∧ YP wr g t s ∧ Below wr3.heap.size wr3 wr) (fun vs _ => A.ac.length - (Go.RowKit.intOf vs).toNat)
            case atStart => exact ⟨0, rfl, Nat.zero_le _, HY4.out, HB4.out⟩
            case round =>
             clear HY4 HB4
             obtain ⟨s, rfl, hsn, hY, hB⟩ := hrel
             obtain ⟨wr5, h5⟩ : ∃ z, z = wr := ⟨_, rfl⟩
             subst h5
             have HY : Hid (YP wr5 g t s) := hY
             have HB : Hid (Below wr3.heap.size wr3 wr5) := hB
             have HX5 : Hid (EB w #[.int .i64 A.k, .slice (some ⟨gn, on, none⟩) A.nx.length cn, .slice (some ⟨ga, oa, none⟩) A.ac.length ca] ob A an2 cn2 aa2 ca2 M2 Ws2 N2 vi2 vw2 vn2 wr5) := HX.out.call hB
             clear hY hB
             by_cases hlt4 : s < A.ac.length
             · have hsI : (s : Int) < A.ac.length := by omega
               have hsd : decide ((s : Int) < A.ac.length) = true := decide_eq_true hsI
               obtain ⟨ai, ci, hvi⟩ := own_shape HX5.out.rb.img
               subst hvi
               obtain ⟨X, hX⟩ : ∃ X, ib l = X := ⟨_, rfl⟩
               obtain ⟨q, hq⟩ : ∃ q, im l s = q := ⟨_, rfl⟩
               have hqn : q < A.ac.length := by
                 rw [← hq]
                 have := HLS.out.1
                 rw [im_lt (by omega)]
                 exact HLS.out.2 _ (List.getElem_mem _)
               have hsX : s < X.size := by rw [← hX, ib_size, HLS.out.1]; exact hlt4
               have hXs : X[s].toNat = q := by
                 subst hX
                 rw [ib_get hsX (fun x hx => by have := HLS.out.2 x hx; omega), hq]
               obtain ⟨h1p, h2p, h3p⟩ := HGd.out.at hqn hcI
               obtain ⟨d, hd⟩ : ∃ d, dN A q c = d := ⟨_, rfl⟩
               rw [hd] at h2p h3p
               have HTD : Hid (t.getD s 0 = d) := by show _ = _; rw [← HT.out, mD_at (by rw [HLS.out.1]; exact hlt4), hq, hd]
               obtain ⟨gi, oi, e, _, hcI'⟩ := own_sr HX5.out.rb.img i (.string X) (by unfold sI; rw [List.getElem?_map, HMI.out, ← hX]; rfl)
               subst e
               have hcx : wr5.cell? ⟨gn, on + (q * A.k.toNat + c), none⟩ = some (.int .i64 (d : Int)) := by rw [CN.out wr5 _ HX5.out.rb.below h1p, h2p]
               have hp1 : (q : Int) * A.k = ((q * A.k.toNat : Nat) : Int) := by rw [Int.natCast_mul]; congr 1; omega
               have hp2 : q * A.k.toNat ≤ 64 * 8 := Nat.mul_le_mul (by omega) (by omega)
               obtain ⟨p0, hp0⟩ : ∃ p0, q * A.k.toNat = p0 := ⟨_, rfl⟩
               rw [hp0] at hp1 hp2 hcx h1p
               have hw1 : IntKind.i64.wrap ((q : Int) * A.k) = (p0 : Int) := by rw [hp1, IntKind.wrap_i64]; omega
               obtain ⟨p, hpp⟩ : ∃ p, p0 + c = p := ⟨_, rfl⟩
               have hw2 : IntKind.i64.wrap ((p0 : Int) + c) = (p : Int) := by rw [IntKind.wrap_i64]; omega
               have hpI : (p : Int) < A.nx.length := by omega
               rw [hpp] at hcx
               have hw3 : IntKind.u8.wrap (d : Int) = (d : Int) := by rw [IntKind.wrap_u8]; omega
               have hw4 : IntKind.i64.wrap (q : Int) = (q : Int) := by rw [IntKind.wrap_i64]; omega
               have hsXI : (s : Int) < X.size := by omega
               have hiI2 : (i : Int) < M2.length := by have := (List.getElem?_eq_some_iff.1 HMI.out).1; omega
               obtain ⟨hcg, hfg⟩ := HY.out.here (j := s) (by rw [HTS.out.1]; exact hlt4)
               have HBXc : Hid (∀ o, wr5.cell? ⟨w.heap.size, o, none⟩ = (#[.int .i64 A.k, .slice (some ⟨gn, on, none⟩) A.nx.length cn, .slice (some ⟨ga, oa, none⟩) A.ac.length ca] : Array Value)[o]?) := fun o => cell_of_row _ _ _ _ _ _ HX5.out.box
               have c3 : wr5.cell? ⟨ob, 3, none⟩ = some (.slice (some ⟨gi, oi, none⟩) M2.length ci) := cell_at HX5.out.rb.box rfl
               have S0 : (∀ o, wr5.drew.cell? ⟨w.heap.size, o, none⟩ = (#[.int .i64 A.k, .slice (some ⟨gn, on, none⟩) A.nx.length cn, .slice (some ⟨ga, oa, none⟩) A.ac.length ca] : Array Value)[o]?) ∧ wr5.drew.cell? ⟨ob, 3, none⟩ = some (.slice (some ⟨gi, oi, none⟩) M2.length ci) ∧ wr5.drew.cell? ⟨gi, oi + i, none⟩ = some (.string X) ∧ wr5.drew.cell? ⟨gn, on + p, none⟩ = some (.int .i64 (d : Int)) ∧ wr5.drew.cell? ⟨g, s, none⟩ = some (pvS wr5.drew g s) ∧ wr5.drew.frozen? ⟨g, s, none⟩ = false := ⟨HBXc.out, c3, hcI', hcx, hcg, hfg⟩
               have n1 : w.heap.size ≠ g := by have := (Array.getElem?_eq_some_iff.1 HX.out.box).1; have := HG.out; omega
               have n2 : ob ≠ g := by have := (Array.getElem?_eq_some_iff.1 HX.out.rb.box).1; have := HG.out; omega
               have n3 : gi ≠ g := by
                 obtain ⟨_, cur, hc⟩ := own_blk HX5.out.rb.img (b := gi) rfl
                 obtain ⟨cur2, hc2, _⟩ := HY.out
                 exact blk_ne hc hc2 (by decide)
               have n4 : gn ≠ g := by
                 have h1 := World.block_lt_of_cell? _ _ (CN.out w _ (Below.refl _ _) h1p)
                 have h2 := HX.out.rb.blk
                 have h3 := HG.out
                 show gn ≠ g
                 simp only at h1
                 omega
               have HSS : Hid (∀ y u, ((∀ o, y.cell? ⟨w.heap.size, o, none⟩ = (#[.int .i64 A.k, .slice (some ⟨gn, on, none⟩) A.nx.length cn, .slice (some ⟨ga, oa, none⟩) A.ac.length ca] : Array Value)[o]?) ∧ y.cell? ⟨ob, 3, none⟩ = some (.slice (some ⟨gi, oi, none⟩) M2.length ci) ∧ y.cell? ⟨gi, oi + i, none⟩ = some (.string X) ∧ y.cell? ⟨gn, on + p, none⟩ = some (.int .i64 (d : Int)) ∧ y.cell? ⟨g, s, none⟩ = some (pvS y g s) ∧ y.frozen? ⟨g, s, none⟩ = false) → ((∀ o, (y.setCell ⟨g, s, none⟩ u).cell? ⟨w.heap.size, o, none⟩ = (#[.int .i64 A.k, .slice (some ⟨gn, on, none⟩) A.nx.length cn, .slice (some ⟨ga, oa, none⟩) A.ac.length ca] : Array Value)[o]?) ∧ (y.setCell ⟨g, s, none⟩ u).cell? ⟨ob, 3, none⟩ = some (.slice (some ⟨gi, oi, none⟩) M2.length ci) ∧ (y.setCell ⟨g, s, none⟩ u).cell? ⟨gi, oi + i, none⟩ = some (.string X) ∧ (y.setCell ⟨g, s, none⟩ u).cell? ⟨gn, on + p, none⟩ = some (.int .i64 (d : Int)) ∧ (y.setCell ⟨g, s, none⟩ u).cell? ⟨g, s, none⟩ = some (pvS (y.setCell ⟨g, s, none⟩ u) g s) ∧ (y.setCell ⟨g, s, none⟩ u).frozen? ⟨g, s, none⟩ = false)) := fun y u ⟨a1, a2, a3, a4, a5, a6⟩ =>
                 ⟨fun o => (World.cell?_of_block (heap_set_other n1)).trans (a1 o), (World.cell?_of_block (heap_set_other n2)).trans a2, (World.cell?_of_block (heap_set_other n3)).trans a3, (World.cell?_of_block (heap_set_other n4)).trans a4, cell_pv (cell_set_some a5), by rw [frozen_set]; exact a6⟩
               have HYN : Hid (YP (wr5.drew.setCell ⟨g, s, none⟩ (.int .u8 (d : Int))) g t (s + 1)) := (HY.out.below (Below.refl _ _).drew).put (by rw [HTS.out.1]; exact hlt4) HTD.out
               have HBN : Hid (Below wr3.heap.size wr3 (wr5.drew.setCell ⟨g, s, none⟩ (.int .u8 (d : Int)))) := HB.out.drew.setCell (p := ⟨g, s, none⟩) (by have := HG.out; show wr3.heap.size ≤ g; omega) _
               clear hX hq hqn h1p h2p h3p hd hp1 hp2 hp0 hpp hcI' hcx hcg hfg n1 n2 n3 n4 hks2
               go_upto_region 25 with fail
               go_region_held3 (fun y => (∀ o, y.cell? ⟨w.heap.size, o, none⟩ = (#[.int .i64 A.k, .slice (some ⟨gn, on, none⟩) A.nx.length cn, .slice (some ⟨ga, oa, none⟩) A.ac.length ca] : Array Value)[o]?) ∧ y.cell? ⟨ob, 3, none⟩ = some (.slice (some ⟨gi, oi, none⟩) M2.length ci) ∧ y.cell? ⟨gi, oi + i, none⟩ = some (.string X) ∧ y.cell? ⟨gn, on + p, none⟩ = some (.int .i64 (d : Int)) ∧ y.cell? ⟨g, s, none⟩ = some (pvS y g s) ∧ y.frozen? ⟨g, s, none⟩ = false) (first | exact S0 | assumption | exact HSS.out _ _ (by assumption)) (fail)
               clear S0
               go_wp2_with fail
               go_roundw
               case rel => exact ⟨s + 1, by go_num, by omega, HYN.out, HBN.out⟩
               case measure => simp [Go.RowKit.intOf]; omega
             · have hsI : ¬ (s : Int) < A.ac.length := by omega
               have hsd : decide ((s : Int) < A.ac.length) = false := decide_eq_false hsI
               have hse : s = A.ac.length := by omega
               rw [hse] at HY
               clear hse hsn hlt4
               have hconv := conv_yp HY.out HTS.out.1 (fun x hx => by have := HTS.out.2 x hx; omega)
               obtain ⟨T, hT⟩ : ∃ T, ib t = T := ⟨_, rfl⟩
               have HTT : Hid (ib t = T) := hT
               have HFI : Hid (Calls Try.prog 46 #[.pointer (some ⟨ob, 0, none⟩), .string T] wr5 fun e w' => e = .returned (.int .i64 (M2.idxOf t : Nat)) ∧ wr5 = w') := by
                 have := rfind_any HX5.out.rb t (fun m hm x hx => by have := (HSH.out m hm).2 x hx; omega) (fun x hx => by have := HTS.out.2 x hx; omega) HM.out.most
                 rw [hT] at this
                 exact this
               rw [hT] at hconv
               have HCV : Hid (Sem.run Try.prog (convert 94 9 (.slice (some ⟨g, 0, none⟩) A.ac.length A.ac.length)) wr5 = .ok (.string T) wr5) := hconv
               clear hT
               go_wp2_with fail
               refine HFI.out.mono ?_
               rintro e y5 ⟨rfl, hy5⟩
               subst hy5
               obtain ⟨y5, hy5⟩ : ∃ z, z = wr5 := ⟨_, rfl⟩
               subst hy5
               obtain ⟨wa, wc, hvw⟩ := own_shape HX5.out.rb.wds
               subst hvw
               have hwl := HWs.out.len
               have c4 : y5.cell? ⟨ob, 4, none⟩ = some (.slice wa Ws2.length wc) := cell_at HX5.out.rb.box rfl
               rw [hwl] at c4
               have HWL : Hid (Ws2.length = M2.length) := hwl
               clear hwl HX HB HFI hsI hsd hconv
               have hmo := HM.out.most
               by_cases hin : t ∈ M2
               · obtain ⟨p, hp⟩ : ∃ p, M2.idxOf t = p := ⟨_, rfl⟩
                 obtain ⟨f', hM'⟩ := HM.out.old HGd.out HMI.out hlt3 (by rw [HT.out]; exact hin)
                 rw [HT.out, hp] at hM'
                 have HM' : Hid (MSs A i (c + 1) M2 W2 (N2 ++ [p]) f') := hM'
                 have HW' : Hid (WSo A.k.toNat M2 Ws2 (N2 ++ [p])) := WSo.old HM.out HWs.out p
                 have hpl : p < M2.length := by rw [← hp]; exact List.idxOf_lt_length_of_mem hin
                 have HMJ : Hid (M2[i]? = some l) := HMI.out
                 have HSJ : Hid (Sh A.ac.length M2) := HSH.out
                 have hpe : ((p : Int) == (M2.length : Nat)) = false := by rw [beq_eq_false_iff_ne]; omega
                 have hpd : decide ((p : Int) = (M2.length : Nat)) = false := decide_eq_false (by omega)
                 have hpd2 : decide (p = M2.length) = false := decide_eq_false (by omega)
                 rw [hp]
                 clear hin hp hM' HM HWs HMI HSH HCV HY HTS HTT
                 obtain ⟨ra, rc, hvn⟩ := own_shape HX5.out.rb.nxt
                 subst hvn
                 obtain ⟨i2, hj, hy0, hy1, hy2⟩ := info_parts Try.info_int
                 have t5 : y5.cell? ⟨ob, 5, none⟩ = some (.slice ra N2.length rc) := cell_at HX5.out.rb.box rfl
                 have hbs : w.heap.size ≤ y5.heap.size := HX5.out.rb.blk
                 have hns := HM'.out.small
                 rw [List.length_append] at hns
                 have hns2 : N2.length ≤ 4096 := by omega
                 clear hns
                 go_wp2_with (at_builtin; go_loud (refine wpList_append_own_at _ rfl _ _ 22 rfl w.heap.size 3 i2 (.int .i64 0) 1 8 Try.underlying22 hj hy0 hy1 hy2 rfl (by decide) _ _ _ rfl (HX5.out.rb.nxt.alloc _) ⟨y5.heap.size, 0, none⟩ 1 1 [.int .i64 (p : Int)] rfl rfl (cell_one_new _ _ _) (by intro u hu; simp at hu; subst hu; rfl) (by unfold maxLen; omega) (by omega) (by simp; omega) ?_; intro v7 w7 ho7 hg7 _ hl7; obtain ⟨a7, c7, rfl⟩ := own_shape ho7; have hN7 := HX5.out.nxtd (q := y5.heap.size + 1) ho7 hg7 (by rcases hl7 with q | q; exact .inl q; exact .inr (q.trans (by rw [World.size_alloc]))) (by omega); have hcs : w7.cell? ⟨ob, 5, none⟩ = some (.slice ra N2.length rc) := cell_at hN7.1 rfl; have hfz : w7.frozen? ⟨ob, 5, none⟩ = false := frozen_blk hN7.1 5; have HN7 : Hid _ := hN7.2; clear hN7 ho7 hg7 hl7 t5))
                 go_roundw
                 case rel => exact ⟨c + 1, _, _, _, _, _, _, _, f', by go_num, by omega, HN7.out, HM'.out, HW'.out, HMJ.out, HSJ.out⟩
                 case measure => simp [Go.RowKit.intOf]; omega
               · have hix : M2.idxOf t = M2.length := List.idxOf_eq_length hin
                 rw [hix]
                 by_cases hfl : M2.length < 512
                 · obtain ⟨f', hM'⟩ := HM.out.new HGd.out HMI.out hlt3 (by rw [HT.out]; exact hin) hfl
                   rw [HT.out] at hM'
                   have HM' : Hid (MSs A i (c + 1) (M2 ++ [t]) (W2 ++ [(i, c)]) (N2 ++ [M2.length]) f') := hM'
                   have hil : i < M2.length := (List.getElem?_eq_some_iff.1 HMI.out).1
                   obtain ⟨u, hu⟩ : ∃ u, Ws2[i]? = some u := ⟨_, List.getElem?_eq_getElem (by rw [HWL.out]; exact hil)⟩
                   have HU : Hid (Ws2[i]? = some u) := hu
                   have HW' : Hid (WSo A.k.toNat (M2 ++ [t]) (Ws2 ++ [u ++ [c]]) (N2 ++ [M2.length])) := WSo.new HM.out HWs.out HMI.out hlt3 HT.out hin hfl hu
                   have HUL : Hid (u.length ≤ 512) := WSo.word HM.out HWs.out hu
                   have HMJ : Hid ((M2 ++ [t])[i]? = some l) := getElem?_snoc_lt HMI.out
                   have HSJ : Hid (Sh A.ac.length (M2 ++ [t])) := Sh.new HGd.out HSH.out HMI.out hlt3 HT.out
                   have h5e : ((M2.length : Int) == 512) = false := by rw [beq_eq_false_iff_ne]; omega
                   have h5d : decide ((M2.length : Int) = 512) = false := decide_eq_false (by omega)
                   have h5d2 : decide (M2.length = 512) = false := decide_eq_false (by omega)
                   clear hin hix hM' HM HWs HMI HSH HT hu
                   go_upto_region 30 with fail
                   go_cut [] (fun wx => ∃ vi3 wz, wz = wx ∧ EB w #[.int .i64 A.k, .slice (some ⟨gn, on, none⟩) A.nx.length cn, .slice (some ⟨ga, oa, none⟩) A.ac.length ca] ob A an2 cn2 aa2 ca2 (M2 ++ [t]) Ws2 N2 vi3 (.slice wa Ws2.length wc) vn2 wz)
                   case first =>
                     obtain ⟨ai, ci, hvi⟩ := own_shape HX5.out.rb.img
                     subst hvi
                     obtain ⟨i3, hk, hx0, hx1, hx2⟩ := info_parts Try.info_str
                     have HIM : Hid (∀ O, (y5.alloc O).drew.ownsRow w.heap.size 9 1 (.slice ai M2.length ci) M2.length (sI M2)) := fun O => HX5.out.rb.img.alloc O
                     have t3 : y5.drew.cell? ⟨ob, 3, none⟩ = some (.slice ai M2.length ci) := cell_at HX5.out.rb.box rfl
                     have t3a : ∀ O, (y5.alloc O).drew.cell? ⟨ob, 3, none⟩ = some (.slice ai M2.length ci) := fun O => by have := below_cellJ (o := 3) (below_new y5 O) (Array.getElem?_eq_some_iff.1 HX5.out.rb.box).1; exact this.trans t3
                     have KN : Hid (∀ (j : Nat) (u : Value), ([.string T] : List Value)[j]? = some u → (y5.alloc (.cells #[.string T] 9)).drew.cell? ((⟨y5.heap.size, 0, none⟩ : Addr).add j) = some u) := fun j u hu => by
                       rw [addr_add0]
                       refine cell_at (heap_last y5 _) ?_
                       rw [List.getElem?_toArray]
                       exact hu
                     have hb5 : w.heap.size ≤ y5.heap.size := HX5.out.rb.blk
                     have HDR : Hid (∀ o, (y5.drew.alloc o).heap.size = y5.heap.size + 1) := fun o => by simp
                     have HNW : Hid (∀ (g7 c7 : Nat) (w7 : World) (o : Obj), w7.ownsRow w.heap.size 9 1 (.slice (some ⟨g7, 0, none⟩) (M2.length + 1) c7) (M2.length + 1) (sI M2 ++ [.string T]) → (y5.drew.alloc o).grownBy w7 (Value.slice ai M2.length ci).ownBlock → ((Value.slice ai M2.length ci).ownBlock = some g7 ∨ g7 = y5.heap.size + 1) → _) := fun g7 c7 w7 o ho hg hl => (HX5.out.call (Below.refl _ _).drew).imgd (l := t) (q := y5.heap.size + 1) (by rw [HTT.out]; exact ho) hg (by rcases hl with q | q; exact .inl q.symm; exact .inr (by rw [← q]; rfl)) (by show y5.heap.size ≤ _; omega)
                     have hconv2 : Sem.run Try.prog (convert 94 9 (.slice (some ⟨g, 0, none⟩) A.ac.length A.ac.length)) y5.drew = .ok (.string T) y5.drew := by
                       have := conv_yp (w := y5.drew) (HY.out.below (Below.refl _ _).drew) HTS.out.1 (fun x hx => by have := HTS.out.2 x hx; omega)
                       rw [HTT.out] at this
                       exact this
                     clear c4
                     go_region_law (rw [if_pos (by rfl)]; refine wp_append_lies _ _ _ 52 rfl w.heap.size 9 i3 (.string ByteArray.empty) 1 16 Try.underlying52 hk hx0 hx1 hx2 rfl (by decide) _ _ _ rfl (HIM.out _) ⟨y5.heap.size, 0, none⟩ 1 1 [.string T] rfl rfl KN.out (by intro u hu; simp at hu; subst hu; rfl) (by decide) (by unfold maxLen; omega) (by omega) (by simp; omega) (y5.drew.alloc (.cells #[.string T] 9)).heap.size rfl ?_; intro g7 c7 w7 ho7 hg7 hl7 _; have hgr : (y5.drew.alloc (.cells #[.string T] 9)).grownBy w7 (Value.slice ai M2.length ci).ownBlock := hg7; have hN7 := HNW.out g7 c7 w7 (.cells #[.string T] 9) ho7 hgr (by rcases hl7 with q | q; exact .inl q; exact .inr (q.trans (HDR.out _))); have hcs : w7.cell? ⟨ob, 3, none⟩ = some (.slice ai M2.length ci) := cell_at hN7.1 rfl; have hfz : w7.frozen? ⟨ob, 3, none⟩ = false := frozen_blk hN7.1 3; have HN7 : Hid _ := hN7.2; clear hN7 ho7 hg7 hl7 hgr)
                     all_goals (
                       go_wp2_with fail
                       go_meet
                       exact ⟨_, _, rfl, HN7.out⟩)
                   case rest =>
                     obtain ⟨vi3, y6, rfl, hX6⟩ := hcut
                     have HX6 : Hid (EB w #[.int .i64 A.k, .slice (some ⟨gn, on, none⟩) A.nx.length cn, .slice (some ⟨ga, oa, none⟩) A.ac.length ca] ob A an2 cn2 aa2 ca2 (M2 ++ [t]) Ws2 N2 vi3 (.slice wa Ws2.length wc) vn2 y6) := hX6
                     clear hX6 HX5 HCV HY HTS HTT c4
                     go_upto_region 31 with fail
                     go_cut [] (fun wx => ∃ vw3 wz, wz = wx ∧ EB w #[.int .i64 A.k, .slice (some ⟨gn, on, none⟩) A.nx.length cn, .slice (some ⟨ga, oa, none⟩) A.ac.length ca] ob A an2 cn2 aa2 ca2 (M2 ++ [t]) (Ws2 ++ [u ++ [c]]) N2 vi3 vw3 vn2 wz)
                     case first =>
                       obtain ⟨y0, hy0⟩ : ∃ y0, y0 = y6.drew := ⟨_, rfl⟩
                       obtain ⟨gw, ow, e, _, hcw⟩ := own_sr HX6.out.rb.wds i (.string (wb u)) (by unfold sW; rw [List.getElem?_map, HU.out]; rfl)
                       subst e
                       obtain ⟨i3, hk, hx0, hx1, hx2⟩ := info_parts Try.info_str
                       obtain ⟨U, hU⟩ : ∃ U, wb u = U := ⟨_, rfl⟩
                       have hUs : U.size ≤ 512 := by rw [← hU, wb_size]; exact HUL.out
                       rw [hU] at hcw
                       have hc8 : c < 8 := by omega
                       obtain ⟨z, hz⟩ : ∃ z, 97 + c = z := ⟨_, rfl⟩
                       have hcz := conv_one y0 c z hc8 hz
                       obtain ⟨L, hL⟩ : ∃ L, wb [c] = L := ⟨_, rfl⟩
                       have hLs : L.size = 1 := by rw [← hL, wb_size]; rfl
                       rw [hL] at hcz
                       have HUN : Hid (wb (u ++ [c]) = U ++ L) := by
                         show _ = _
                         rw [← wb_snoc, hU, ← hL]
                         rfl
                       have hul1 : U.size + L.size ≤ 9223372036854775807 := by omega
                       have hul2 : ¬ (9223372036854775807 : Int) < (U.size : Int) + (L.size : Int) := by omega
                       have hmx : IntKind.i64.max = 9223372036854775807 := by decide
                       have hxs3 : ¬ IntKind.i64.max < ((U.size + L.size : Nat) : Int) := by rw [hmx]; omega
                       have hcat := run_cat hxs3
                       clear hmx hxs3
                       have hz1 : IntKind.i64.wrap (97 + (c : Int)) = (z : Int) := by rw [IntKind.wrap_i64]; omega
                       have hz2' : IntKind.u8.wrap (z : Int) = (z : Int) := by rw [IntKind.wrap_u8]; omega
                       have hiI2 : (i : Int) < Ws2.length := by have := (List.getElem?_eq_some_iff.1 HU.out).1; omega
                       have hwl2 : Ws2.length ≤ 512 := by have := HWL.out; omega
                       have HX0 : Hid (EB w #[.int .i64 A.k, .slice (some ⟨gn, on, none⟩) A.nx.length cn, .slice (some ⟨ga, oa, none⟩) A.ac.length ca] ob A an2 cn2 aa2 ca2 (M2 ++ [t]) Ws2 N2 vi3 (.slice (some ⟨gw, ow, none⟩) Ws2.length wc) vn2 y0) := by show EB _ _ _ _ _ _ _ _ _ _ _ _ _ _ _; rw [hy0]; exact HX6.out.call (Below.refl _ _).drew
                       have hob0 : ob < y0.heap.size := (Array.getElem?_eq_some_iff.1 HX0.out.rb.box).1
                       have hgw0 : gw < y0.heap.size := by have := World.block_lt_of_cell? _ _ hcw; rw [hy0]; exact this
                       have hb5 : w.heap.size ≤ y0.heap.size := HX0.out.rb.blk
                       have d0 : y0.cell? ⟨gw, ow + i, none⟩ = some (.string U) := by rw [hy0]; exact hcw
                       have d1 : (y0.alloc (.cells #[.int .u8 (z : Int)] 5)).cell? ⟨gw, ow + i, none⟩ = some (.string U) := (below_cellJ (o := ow + i) (below_new y0 _) hgw0).trans d0
                       have KN : Hid (∀ (j : Nat) (x : Value), ([.string (U ++ L)] : List Value)[j]? = some x → ((y0.alloc (.cells #[.int .u8 (z : Int)] 5)).alloc (.cells #[.string (U ++ L)] 9)).cell? ((⟨y0.heap.size + 1, 0, none⟩ : Addr).add j) = some x) := fun j x hx => by
                         rw [addr_add0]
                         have h1 : ((y0.alloc (.cells #[.int .u8 (z : Int)] 5)).alloc (.cells #[.string (U ++ L)] 9)).heap[y0.heap.size + 1]? = some (.cells #[.string (U ++ L)] 9 (0, 0)) := by
                           have := heap_last (y0.alloc (.cells #[.int .u8 (z : Int)] 5)) (.cells #[.string (U ++ L)] 9)
                           rw [World.size_alloc] at this
                           exact this
                         refine cell_at h1 ?_
                         rw [List.getElem?_toArray]
                         exact hx
                       have HIM : Hid (((y0.alloc (.cells #[.int .u8 (z : Int)] 5)).alloc (.cells #[.string (U ++ L)] 9)).ownsRow w.heap.size 9 1 (.slice (some ⟨gw, ow, none⟩) Ws2.length wc) Ws2.length (sW Ws2)) := (HX0.out.rb.wds.alloc _).alloc _
                       have HNW : Hid (∀ (g7 c7 : Nat) (w7 : World), w7.ownsRow w.heap.size 9 1 (.slice (some ⟨g7, 0, none⟩) (Ws2.length + 1) c7) (Ws2.length + 1) (sW Ws2 ++ [.string (U ++ L)]) → ((y0.alloc (.cells #[.int .u8 (z : Int)] 5)).alloc (.cells #[.string (U ++ L)] 9)).grownBy w7 (Value.slice (some ⟨gw, ow, none⟩) Ws2.length wc).ownBlock → ((Value.slice (some ⟨gw, ow, none⟩) Ws2.length wc).ownBlock = some g7 ∨ g7 = y0.heap.size + 2) → _) := fun g7 c7 w7 ho hg hl => (HX0.out.call (below_new _ (.cells #[.int .u8 (z : Int)] 5))).wdsd (l := u ++ [c]) (q := y0.heap.size + 2) (by rw [HUN.out]; exact ho) hg (by rcases hl with q | q; exact .inl q.symm; exact .inr (by rw [← q]; rfl)) (by simp)
                       have hS0 : y0.heap[ob]? = some (.cells #[.int .i64 A.k, .slice an2 A.nx.length cn2, .slice aa2 A.ac.length ca2, vi3, .slice (some ⟨gw, ow, none⟩) Ws2.length wc, vn2] 54 (0, 0)) := HX0.out.rb.box
                       have HSZ : Hid (((y0.alloc (.cells #[.int .u8 (z : Int)] 5)).alloc (.cells #[.string (U ++ L)] 9)).heap.size = y0.heap.size + 2) := by show _ = _; simp
                       clear hU hz hL hcw HX6 HU HUL HX0
                       refine wp_region_L 22 (fun y => y.heap[ob]? = some (.cells #[.int .i64 A.k, .slice an2 A.nx.length cn2, .slice aa2 A.ac.length ca2, vi3, .slice (some ⟨gw, ow, none⟩) Ws2.length wc, vn2] 54 (0, 0))) (by kernel_rfl) (by rw [← hy0]; exact hS0) (fun hH0 => ?_)
                       rw [← hy0] at hH0 ⊢
                       clear hS0 hy0
                       refine wpAnyL_take (i := 0) (oi := { dst := some 132, op := Go.Op.move (Go.Operand.tmp 8), type := 28, pos := "ref.go:60", after := #[], guard := none }) (v := ?_) rfl (by kernel_rfl) (by kernel_rfl) (by decide) (by kernel_rfl) (by kernel_rfl) (by kernel_rfl) (fun _ _ _ h => h) (Or.inl ⟨by rfl, ?_⟩) (by assumption) ?_
                       rotate_left
                       · intro w' hS; go_simp; (try with_reducible rfl)
                       simp only [Act.put, List.setIfInBounds_toArray, List.set_cons_zero, List.set_cons_succ]
                       refine wpAnyL_take (i := 1) (oi := { dst := some 133, op := Go.Op.move (Go.Operand.tmp 8), type := 28, pos := "ref.go:60", after := #[], guard := none }) (v := ?_) rfl (by kernel_rfl) (by kernel_rfl) (by decide) (by kernel_rfl) (by kernel_rfl) (by kernel_rfl) (fun _ _ _ h => h) (Or.inl ⟨by rfl, ?_⟩) (by assumption) ?_
                       rotate_left
                       · intro w' hS; go_simp; (try with_reducible rfl)
                       simp only [Act.put, List.setIfInBounds_toArray, List.set_cons_zero, List.set_cons_succ]
                       refine wpAnyL_take (i := 2) (oi := { dst := some 134, op := Go.Op.nilCheck (Go.Operand.tmp 133), type := 0, pos := "ref.go:60", after := #[{ on := 1, ground := Go.Ground.data }], guard := none }) (v := ?_) rfl (by kernel_rfl) (by kernel_rfl) (by decide) (by kernel_rfl) (by kernel_rfl) (by kernel_rfl) (fun _ _ _ h => h) (Or.inl ⟨by rfl, ?_⟩) (by assumption) ?_
                       rotate_left
                       · intro w' hS; go_simp; (try with_reducible rfl)
                       simp only [Act.put, List.setIfInBounds_toArray, List.set_cons_zero, List.set_cons_succ]
                       refine wpAnyL_take (i := 3) (oi := { dst := some 135, op := Go.Op.fieldAddr 54 (Go.Operand.tmp 134) 2, type := 0, pos := "ref.go:60", after := #[{ on := 2, ground := Go.Ground.data }], guard := none }) (v := ?_) rfl (by kernel_rfl) (by kernel_rfl) (by decide) (by kernel_rfl) (by kernel_rfl) (by kernel_rfl) (fun _ _ _ h => h) (Or.inl ⟨by rfl, ?_⟩) (by assumption) ?_
                       rotate_left
                       · intro w' hS; go_simp; (try with_reducible rfl)
                       simp only [Act.put, List.setIfInBounds_toArray, List.set_cons_zero, List.set_cons_succ]
                       refine wpAnyL_take (i := 4) (oi := { dst := some 136, op := Go.Op.load 52 (Go.Operand.tmp 135), type := 52, pos := "ref.go:60", after := #[{ on := 3, ground := Go.Ground.data }], guard := none }) (v := .slice (some ⟨gw, ow, none⟩) Ws2.length wc) rfl (by kernel_rfl) (by kernel_rfl) (by decide) (by kernel_rfl) (by kernel_rfl) (by kernel_rfl) (fun _ _ _ h => h) (Or.inl ⟨by rfl, ?_⟩) (by assumption) ?_
                       · intro w' hS; have hz := cell_at (j := 4) hS rfl; go_simp
                       simp only [Act.put, List.setIfInBounds_toArray, List.set_cons_zero, List.set_cons_succ]
                       refine wpAnyL_take (i := 5) (oi := { dst := some 137, op := Go.Op.move (Go.Operand.tmp 8), type := 28, pos := "ref.go:60", after := #[], guard := none }) (v := ?_) rfl (by kernel_rfl) (by kernel_rfl) (by decide) (by kernel_rfl) (by kernel_rfl) (by kernel_rfl) (fun _ _ _ h => h) (Or.inl ⟨by rfl, ?_⟩) (by assumption) ?_
                       rotate_left
                       · intro w' hS; go_simp; (try with_reducible rfl)
                       simp only [Act.put, List.setIfInBounds_toArray, List.set_cons_zero, List.set_cons_succ]
                       refine wpAnyL_take (i := 6) (oi := { dst := some 138, op := Go.Op.nilCheck (Go.Operand.tmp 137), type := 0, pos := "ref.go:60", after := #[{ on := 5, ground := Go.Ground.data }], guard := none }) (v := ?_) rfl (by kernel_rfl) (by kernel_rfl) (by decide) (by kernel_rfl) (by kernel_rfl) (by kernel_rfl) (fun _ _ _ h => h) (Or.inl ⟨by rfl, ?_⟩) (by assumption) ?_
                       rotate_left
                       · intro w' hS; go_simp; (try with_reducible rfl)
                       simp only [Act.put, List.setIfInBounds_toArray, List.set_cons_zero, List.set_cons_succ]
                       refine wpAnyL_take (i := 7) (oi := { dst := some 139, op := Go.Op.fieldAddr 54 (Go.Operand.tmp 138) 2, type := 0, pos := "ref.go:60", after := #[{ on := 6, ground := Go.Ground.data }], guard := none }) (v := ?_) rfl (by kernel_rfl) (by kernel_rfl) (by decide) (by kernel_rfl) (by kernel_rfl) (by kernel_rfl) (fun _ _ _ h => h) (Or.inl ⟨by rfl, ?_⟩) (by assumption) ?_
                       rotate_left
                       · intro w' hS; go_simp; (try with_reducible rfl)
                       simp only [Act.put, List.setIfInBounds_toArray, List.set_cons_zero, List.set_cons_succ]
                       refine wpAnyL_take (i := 8) (oi := { dst := some 140, op := Go.Op.load 52 (Go.Operand.tmp 139), type := 52, pos := "ref.go:60", after := #[{ on := 7, ground := Go.Ground.data }], guard := none }) (v := .slice (some ⟨gw, ow, none⟩) Ws2.length wc) rfl (by kernel_rfl) (by kernel_rfl) (by decide) (by kernel_rfl) (by kernel_rfl) (by kernel_rfl) (fun _ _ _ h => h) (Or.inl ⟨by rfl, ?_⟩) (by assumption) ?_
                       · intro w' hS; have hz := cell_at (j := 4) hS rfl; go_simp
                       simp only [Act.put, List.setIfInBounds_toArray, List.set_cons_zero, List.set_cons_succ]
                       refine wpAnyL_take (i := 9) (oi := { dst := some 141, op := Go.Op.move (Go.Operand.tmp 9), type := 3, pos := "ref.go:60", after := #[], guard := none }) (v := ?_) rfl (by kernel_rfl) (by kernel_rfl) (by decide) (by kernel_rfl) (by kernel_rfl) (by kernel_rfl) (fun _ _ _ h => h) (Or.inl ⟨by rfl, ?_⟩) (by assumption) ?_
                       rotate_left
                       · intro w' hS; go_simp; (try with_reducible rfl)
                       simp only [Act.put, List.setIfInBounds_toArray, List.set_cons_zero, List.set_cons_succ]
                       refine wpAnyL_take (i := 10) (oi := { dst := some 142, op := Go.Op.indexAddr 52 (Go.Operand.tmp 140) (Go.Operand.tmp 141), type := 0, pos := "ref.go:60", after := #[{ on := 8, ground := Go.Ground.data }, { on := 9, ground := Go.Ground.data }], guard := none }) (v := ?_) rfl (by kernel_rfl) (by kernel_rfl) (by decide) (by kernel_rfl) (by kernel_rfl) (by kernel_rfl) (fun _ _ _ h => h) (Or.inl ⟨by rfl, ?_⟩) (by assumption) ?_
                       rotate_left
                       · intro w' hS; go_simp; (try with_reducible rfl)
                       simp only [Act.put, List.setIfInBounds_toArray, List.set_cons_zero, List.set_cons_succ]
                       refine wpAnyL_take (i := 12) (oi := { dst := some 144, op := Go.Op.move (Go.Operand.tmp 10), type := 3, pos := "ref.go:60", after := #[], guard := none }) (v := ?_) rfl (by kernel_rfl) (by kernel_rfl) (by decide) (by kernel_rfl) (by kernel_rfl) (by kernel_rfl) (fun _ _ _ h => h) (Or.inl ⟨by rfl, ?_⟩) (by assumption) ?_
                       rotate_left
                       · intro w' hS; go_simp; (try with_reducible rfl)
                       simp only [Act.put, List.setIfInBounds_toArray, List.set_cons_zero, List.set_cons_succ]
                       refine wpAnyL_take (i := 13) (oi := { dst := some 145, op := Go.Op.binOp Go.BinOp.add 3 (Go.Operand.const (Go.Value.int Go.IntKind.i64 97)) (Go.Operand.tmp 144) 3, type := 3, pos := "ref.go:60", after := #[{ on := 12, ground := Go.Ground.data }], guard := none }) (v := ?_) rfl (by kernel_rfl) (by kernel_rfl) (by decide) (by kernel_rfl) (by kernel_rfl) (by kernel_rfl) (fun _ _ _ h => h) (Or.inl ⟨by rfl, ?_⟩) (by assumption) ?_
                       rotate_left
                       · intro w' hS; go_simp; (try with_reducible rfl)
                       simp only [Act.put, List.setIfInBounds_toArray, List.set_cons_zero, List.set_cons_succ]
                       refine wpAnyL_take (i := 14) (oi := { dst := some 146, op := Go.Op.convert 3 5 (Go.Operand.tmp 145), type := 5, pos := "ref.go:60", after := #[{ on := 13, ground := Go.Ground.data }], guard := none }) (v := ?_) rfl (by kernel_rfl) (by kernel_rfl) (by decide) (by kernel_rfl) (by kernel_rfl) (by kernel_rfl) (fun _ _ _ h => h) (Or.inl ⟨by rfl, ?_⟩) (by assumption) ?_
                       rotate_left
                       · intro w' hS; go_simp; (try with_reducible rfl)
                       simp only [Act.put, List.setIfInBounds_toArray, List.set_cons_zero, List.set_cons_succ]
                       refine wpAnyL_ready (rs := [11, 15]) (by kernel_rfl) (by simp) ?_
                       refine AllReadyL.cons rfl (fun KQ hK => ?_) (AllReadyL.cons rfl (fun KQ hK => ?_) AllReadyL.nil)
                       · skip
                         go_simp
                         refine hK.out _ _ hH0 (fun hH1 => ?_)
                         clear hK KQ
                         refine wpAnyL_ready (rs := [15]) (by kernel_rfl) (by simp) ?_
                         refine AllReadyL.cons rfl (fun KQ hK => ?_) AllReadyL.nil
                         go_simp
                         refine hK.out _ _ ((heap_allo hob0 _).trans hH1) (fun hH2 => ?_)
                         clear hK KQ
                         refine wpAnyL_ready (rs := [16]) (by kernel_rfl) (by simp) ?_
                         refine AllReadyL.cons rfl (fun KQ hK => ?_) AllReadyL.nil
                         go_simp
                         refine hK.out _ _ hH2 (fun hH3 => ?_)
                         clear hK KQ
                         refine wpAnyL_take (i := 17) (oi := { dst := some 149, op := Go.Op.binOp Go.BinOp.add 9 (Go.Operand.tmp 143) (Go.Operand.tmp 148) 9, type := 9, pos := "ref.go:60", after := #[{ on := 11, ground := Go.Ground.data }, { on := 16, ground := Go.Ground.data }], guard := none }) (v := .string (U ++ L)) rfl (by kernel_rfl) (by kernel_rfl) (by decide) (by kernel_rfl) (by kernel_rfl) (by kernel_rfl) (fun _ _ _ h => h) (Or.inl ⟨by rfl, ?_⟩) (by assumption) ?_
                         · intro w' hS; have hq := hcat w'; go_simp
                         simp only [Act.put, List.setIfInBounds_toArray, List.set_cons_zero, List.set_cons_succ]
                         refine wpAnyL_ready (rs := [18]) (by kernel_rfl) (by simp) ?_
                         refine AllReadyL.cons rfl (fun KQ hK => ?_) AllReadyL.nil
                         go_simp
                         refine hK.out _ _ ((heap_allo (by simp; omega) _).trans hH3) (fun hH4 => ?_)
                         clear hK KQ
                         refine wpAnyL_ready (rs := [19]) (by kernel_rfl) (by simp) ?_
                         refine AllReadyL.cons rfl (fun KQ hK => ?_) AllReadyL.nil
                         rw [if_pos (by rfl)]
                         refine wp_append_lies _ _ _ 52 rfl w.heap.size 9 i3 (.string ByteArray.empty) 1 16 Try.underlying52 hk hx0 hx1 hx2 rfl (by decide) _ _ _ rfl HIM.out ⟨y0.heap.size + 1, 0, none⟩ 1 1 [.string (U ++ L)] rfl rfl KN.out (by intro x hx; simp at hx; subst hx; rfl) (by decide) (by unfold maxLen; omega) (by omega) (by simp; omega) (y0.heap.size + 2) HSZ.out ?_
                         intro g7 c7 w7 ho7 hg7 hl7 _
                         have hN7 := HNW.out g7 c7 w7 ho7 hg7 hl7
                         have hcs : w7.cell? ⟨ob, 4, none⟩ = some (.slice (some ⟨gw, ow, none⟩) Ws2.length wc) := cell_at hN7.1 rfl
                         have hfz : w7.frozen? ⟨ob, 4, none⟩ = false := frozen_blk hN7.1 4
                         have HN7 : Hid _ := hN7.2
                         refine hK.out _ _ hN7.1 (fun hH5 => ?_)
                         clear hN7 ho7 hg7 hl7
                         clear hK KQ
                         refine wpAnyL_take (i := 20) (oi := { dst := some 152, op := Go.Op.nilCheck (Go.Operand.tmp 132), type := 0, pos := "ref.go:60", after := #[{ on := 0, ground := Go.Ground.data }, { on := 0, ground := Go.Ground.phase }, { on := 1, ground := Go.Ground.phase }, { on := 2, ground := Go.Ground.phase }, { on := 3, ground := Go.Ground.phase }, { on := 4, ground := Go.Ground.phase }, { on := 5, ground := Go.Ground.phase }, { on := 6, ground := Go.Ground.phase }, { on := 7, ground := Go.Ground.phase }, { on := 8, ground := Go.Ground.phase }, { on := 9, ground := Go.Ground.phase }, { on := 10, ground := Go.Ground.phase }, { on := 11, ground := Go.Ground.phase }, { on := 12, ground := Go.Ground.phase }, { on := 13, ground := Go.Ground.phase }, { on := 14, ground := Go.Ground.phase }, { on := 15, ground := Go.Ground.phase }, { on := 16, ground := Go.Ground.phase }, { on := 17, ground := Go.Ground.phase }, { on := 18, ground := Go.Ground.phase }, { on := 19, ground := Go.Ground.phase }], guard := none }) (v := ?_) rfl (by kernel_rfl) (by kernel_rfl) (by decide) (by kernel_rfl) (by kernel_rfl) (by kernel_rfl) (fun _ _ _ h => h) (Or.inl ⟨by rfl, ?_⟩) (by assumption) ?_
                         rotate_left
                         · intro w' hS; go_simp; (try with_reducible rfl)
                         simp only [Act.put, List.setIfInBounds_toArray, List.set_cons_zero, List.set_cons_succ]
                         refine wpAnyL_take (i := 21) (oi := { dst := some 153, op := Go.Op.fieldAddr 54 (Go.Operand.tmp 152) 2, type := 0, pos := "ref.go:60", after := #[{ on := 20, ground := Go.Ground.data }, { on := 0, ground := Go.Ground.phase }, { on := 1, ground := Go.Ground.phase }, { on := 2, ground := Go.Ground.phase }, { on := 3, ground := Go.Ground.phase }, { on := 4, ground := Go.Ground.phase }, { on := 5, ground := Go.Ground.phase }, { on := 6, ground := Go.Ground.phase }, { on := 7, ground := Go.Ground.phase }, { on := 8, ground := Go.Ground.phase }, { on := 9, ground := Go.Ground.phase }, { on := 10, ground := Go.Ground.phase }, { on := 11, ground := Go.Ground.phase }, { on := 12, ground := Go.Ground.phase }, { on := 13, ground := Go.Ground.phase }, { on := 14, ground := Go.Ground.phase }, { on := 15, ground := Go.Ground.phase }, { on := 16, ground := Go.Ground.phase }, { on := 17, ground := Go.Ground.phase }, { on := 18, ground := Go.Ground.phase }, { on := 19, ground := Go.Ground.phase }], guard := none }) (v := ?_) rfl (by kernel_rfl) (by kernel_rfl) (by decide) (by kernel_rfl) (by kernel_rfl) (by kernel_rfl) (fun _ _ _ h => h) (Or.inl ⟨by rfl, ?_⟩) (by assumption) ?_
                         rotate_left
                         · intro w' hS; go_simp; (try with_reducible rfl)
                         simp only [Act.put, List.setIfInBounds_toArray, List.set_cons_zero, List.set_cons_succ]
                         refine wpAnyL_ready (rs := [22]) (by kernel_rfl) (by simp) ?_
                         refine AllReadyL.last rfl (fun KQ hK => ?_)
                         go_simp
                         refine hK.out _ _ ?_
                         clear hK KQ
                         refine wpAnyL_done (by kernel_rfl) ?_ _
                         go_wp2_with fail
                         go_meet
                         exact ⟨_, _, rfl, HN7.out⟩
                       · skip
                         go_simp
                         refine hK.out _ _ ((heap_allo hob0 _).trans hH0) (fun hH1 => ?_)
                         clear hK KQ
                         refine wpAnyL_ready (rs := [11, 16]) (by kernel_rfl) (by simp) ?_
                         refine AllReadyL.cons rfl (fun KQ hK => ?_) (AllReadyL.cons rfl (fun KQ hK => ?_) AllReadyL.nil)
                         · skip
                           go_simp
                           refine hK.out _ _ hH1 (fun hH2 => ?_)
                           clear hK KQ
                           refine wpAnyL_ready (rs := [16]) (by kernel_rfl) (by simp) ?_
                           refine AllReadyL.cons rfl (fun KQ hK => ?_) AllReadyL.nil
                           go_simp
                           refine hK.out _ _ hH2 (fun hH3 => ?_)
                           clear hK KQ
                           refine wpAnyL_take (i := 17) (oi := { dst := some 149, op := Go.Op.binOp Go.BinOp.add 9 (Go.Operand.tmp 143) (Go.Operand.tmp 148) 9, type := 9, pos := "ref.go:60", after := #[{ on := 11, ground := Go.Ground.data }, { on := 16, ground := Go.Ground.data }], guard := none }) (v := .string (U ++ L)) rfl (by kernel_rfl) (by kernel_rfl) (by decide) (by kernel_rfl) (by kernel_rfl) (by kernel_rfl) (fun _ _ _ h => h) (Or.inl ⟨by rfl, ?_⟩) (by assumption) ?_
                           · intro w' hS; have hq := hcat w'; go_simp
                           simp only [Act.put, List.setIfInBounds_toArray, List.set_cons_zero, List.set_cons_succ]
                           refine wpAnyL_ready (rs := [18]) (by kernel_rfl) (by simp) ?_
                           refine AllReadyL.cons rfl (fun KQ hK => ?_) AllReadyL.nil
                           go_simp
                           refine hK.out _ _ ((heap_allo (by simp; omega) _).trans hH3) (fun hH4 => ?_)
                           clear hK KQ
                           refine wpAnyL_ready (rs := [19]) (by kernel_rfl) (by simp) ?_
                           refine AllReadyL.cons rfl (fun KQ hK => ?_) AllReadyL.nil
                           rw [if_pos (by rfl)]
                           refine wp_append_lies _ _ _ 52 rfl w.heap.size 9 i3 (.string ByteArray.empty) 1 16 Try.underlying52 hk hx0 hx1 hx2 rfl (by decide) _ _ _ rfl HIM.out ⟨y0.heap.size + 1, 0, none⟩ 1 1 [.string (U ++ L)] rfl rfl KN.out (by intro x hx; simp at hx; subst hx; rfl) (by decide) (by unfold maxLen; omega) (by omega) (by simp; omega) (y0.heap.size + 2) HSZ.out ?_
                           intro g7 c7 w7 ho7 hg7 hl7 _
                           have hN7 := HNW.out g7 c7 w7 ho7 hg7 hl7
                           have hcs : w7.cell? ⟨ob, 4, none⟩ = some (.slice (some ⟨gw, ow, none⟩) Ws2.length wc) := cell_at hN7.1 rfl
                           have hfz : w7.frozen? ⟨ob, 4, none⟩ = false := frozen_blk hN7.1 4
                           have HN7 : Hid _ := hN7.2
                           refine hK.out _ _ hN7.1 (fun hH5 => ?_)
                           clear hN7 ho7 hg7 hl7
                           clear hK KQ
                           refine wpAnyL_take (i := 20) (oi := { dst := some 152, op := Go.Op.nilCheck (Go.Operand.tmp 132), type := 0, pos := "ref.go:60", after := #[{ on := 0, ground := Go.Ground.data }, { on := 0, ground := Go.Ground.phase }, { on := 1, ground := Go.Ground.phase }, { on := 2, ground := Go.Ground.phase }, { on := 3, ground := Go.Ground.phase }, { on := 4, ground := Go.Ground.phase }, { on := 5, ground := Go.Ground.phase }, { on := 6, ground := Go.Ground.phase }, { on := 7, ground := Go.Ground.phase }, { on := 8, ground := Go.Ground.phase }, { on := 9, ground := Go.Ground.phase }, { on := 10, ground := Go.Ground.phase }, { on := 11, ground := Go.Ground.phase }, { on := 12, ground := Go.Ground.phase }, { on := 13, ground := Go.Ground.phase }, { on := 14, ground := Go.Ground.phase }, { on := 15, ground := Go.Ground.phase }, { on := 16, ground := Go.Ground.phase }, { on := 17, ground := Go.Ground.phase }, { on := 18, ground := Go.Ground.phase }, { on := 19, ground := Go.Ground.phase }], guard := none }) (v := ?_) rfl (by kernel_rfl) (by kernel_rfl) (by decide) (by kernel_rfl) (by kernel_rfl) (by kernel_rfl) (fun _ _ _ h => h) (Or.inl ⟨by rfl, ?_⟩) (by assumption) ?_
                           rotate_left
                           · intro w' hS; go_simp; (try with_reducible rfl)
                           simp only [Act.put, List.setIfInBounds_toArray, List.set_cons_zero, List.set_cons_succ]
                           refine wpAnyL_take (i := 21) (oi := { dst := some 153, op := Go.Op.fieldAddr 54 (Go.Operand.tmp 152) 2, type := 0, pos := "ref.go:60", after := #[{ on := 20, ground := Go.Ground.data }, { on := 0, ground := Go.Ground.phase }, { on := 1, ground := Go.Ground.phase }, { on := 2, ground := Go.Ground.phase }, { on := 3, ground := Go.Ground.phase }, { on := 4, ground := Go.Ground.phase }, { on := 5, ground := Go.Ground.phase }, { on := 6, ground := Go.Ground.phase }, { on := 7, ground := Go.Ground.phase }, { on := 8, ground := Go.Ground.phase }, { on := 9, ground := Go.Ground.phase }, { on := 10, ground := Go.Ground.phase }, { on := 11, ground := Go.Ground.phase }, { on := 12, ground := Go.Ground.phase }, { on := 13, ground := Go.Ground.phase }, { on := 14, ground := Go.Ground.phase }, { on := 15, ground := Go.Ground.phase }, { on := 16, ground := Go.Ground.phase }, { on := 17, ground := Go.Ground.phase }, { on := 18, ground := Go.Ground.phase }, { on := 19, ground := Go.Ground.phase }], guard := none }) (v := ?_) rfl (by kernel_rfl) (by kernel_rfl) (by decide) (by kernel_rfl) (by kernel_rfl) (by kernel_rfl) (fun _ _ _ h => h) (Or.inl ⟨by rfl, ?_⟩) (by assumption) ?_
                           rotate_left
                           · intro w' hS; go_simp; (try with_reducible rfl)
                           simp only [Act.put, List.setIfInBounds_toArray, List.set_cons_zero, List.set_cons_succ]
                           refine wpAnyL_ready (rs := [22]) (by kernel_rfl) (by simp) ?_
                           refine AllReadyL.last rfl (fun KQ hK => ?_)
                           go_simp
                           refine hK.out _ _ ?_
                           clear hK KQ
                           refine wpAnyL_done (by kernel_rfl) ?_ _
                           go_wp2_with fail
                           go_meet
                           exact ⟨_, _, rfl, HN7.out⟩
                         · skip
                           go_simp
                           refine hK.out _ _ hH1 (fun hH2 => ?_)
                           clear hK KQ
                           refine wpAnyL_ready (rs := [11]) (by kernel_rfl) (by simp) ?_
                           refine AllReadyL.cons rfl (fun KQ hK => ?_) AllReadyL.nil
                           go_simp
                           refine hK.out _ _ hH2 (fun hH3 => ?_)
                           clear hK KQ
                           refine wpAnyL_take (i := 17) (oi := { dst := some 149, op := Go.Op.binOp Go.BinOp.add 9 (Go.Operand.tmp 143) (Go.Operand.tmp 148) 9, type := 9, pos := "ref.go:60", after := #[{ on := 11, ground := Go.Ground.data }, { on := 16, ground := Go.Ground.data }], guard := none }) (v := .string (U ++ L)) rfl (by kernel_rfl) (by kernel_rfl) (by decide) (by kernel_rfl) (by kernel_rfl) (by kernel_rfl) (fun _ _ _ h => h) (Or.inl ⟨by rfl, ?_⟩) (by assumption) ?_
                           · intro w' hS; have hq := hcat w'; go_simp
                           simp only [Act.put, List.setIfInBounds_toArray, List.set_cons_zero, List.set_cons_succ]
                           refine wpAnyL_ready (rs := [18]) (by kernel_rfl) (by simp) ?_
                           refine AllReadyL.cons rfl (fun KQ hK => ?_) AllReadyL.nil
                           go_simp
                           refine hK.out _ _ ((heap_allo (by simp; omega) _).trans hH3) (fun hH4 => ?_)
                           clear hK KQ
                           refine wpAnyL_ready (rs := [19]) (by kernel_rfl) (by simp) ?_
                           refine AllReadyL.cons rfl (fun KQ hK => ?_) AllReadyL.nil
                           rw [if_pos (by rfl)]
                           refine wp_append_lies _ _ _ 52 rfl w.heap.size 9 i3 (.string ByteArray.empty) 1 16 Try.underlying52 hk hx0 hx1 hx2 rfl (by decide) _ _ _ rfl HIM.out ⟨y0.heap.size + 1, 0, none⟩ 1 1 [.string (U ++ L)] rfl rfl KN.out (by intro x hx; simp at hx; subst hx; rfl) (by decide) (by unfold maxLen; omega) (by omega) (by simp; omega) (y0.heap.size + 2) HSZ.out ?_
                           intro g7 c7 w7 ho7 hg7 hl7 _
                           have hN7 := HNW.out g7 c7 w7 ho7 hg7 hl7
                           have hcs : w7.cell? ⟨ob, 4, none⟩ = some (.slice (some ⟨gw, ow, none⟩) Ws2.length wc) := cell_at hN7.1 rfl
                           have hfz : w7.frozen? ⟨ob, 4, none⟩ = false := frozen_blk hN7.1 4
                           have HN7 : Hid _ := hN7.2
                           refine hK.out _ _ hN7.1 (fun hH5 => ?_)
                           clear hN7 ho7 hg7 hl7
                           clear hK KQ
                           refine wpAnyL_take (i := 20) (oi := { dst := some 152, op := Go.Op.nilCheck (Go.Operand.tmp 132), type := 0, pos := "ref.go:60", after := #[{ on := 0, ground := Go.Ground.data }, { on := 0, ground := Go.Ground.phase }, { on := 1, ground := Go.Ground.phase }, { on := 2, ground := Go.Ground.phase }, { on := 3, ground := Go.Ground.phase }, { on := 4, ground := Go.Ground.phase }, { on := 5, ground := Go.Ground.phase }, { on := 6, ground := Go.Ground.phase }, { on := 7, ground := Go.Ground.phase }, { on := 8, ground := Go.Ground.phase }, { on := 9, ground := Go.Ground.phase }, { on := 10, ground := Go.Ground.phase }, { on := 11, ground := Go.Ground.phase }, { on := 12, ground := Go.Ground.phase }, { on := 13, ground := Go.Ground.phase }, { on := 14, ground := Go.Ground.phase }, { on := 15, ground := Go.Ground.phase }, { on := 16, ground := Go.Ground.phase }, { on := 17, ground := Go.Ground.phase }, { on := 18, ground := Go.Ground.phase }, { on := 19, ground := Go.Ground.phase }], guard := none }) (v := ?_) rfl (by kernel_rfl) (by kernel_rfl) (by decide) (by kernel_rfl) (by kernel_rfl) (by kernel_rfl) (fun _ _ _ h => h) (Or.inl ⟨by rfl, ?_⟩) (by assumption) ?_
                           rotate_left
                           · intro w' hS; go_simp; (try with_reducible rfl)
                           simp only [Act.put, List.setIfInBounds_toArray, List.set_cons_zero, List.set_cons_succ]
                           refine wpAnyL_take (i := 21) (oi := { dst := some 153, op := Go.Op.fieldAddr 54 (Go.Operand.tmp 152) 2, type := 0, pos := "ref.go:60", after := #[{ on := 20, ground := Go.Ground.data }, { on := 0, ground := Go.Ground.phase }, { on := 1, ground := Go.Ground.phase }, { on := 2, ground := Go.Ground.phase }, { on := 3, ground := Go.Ground.phase }, { on := 4, ground := Go.Ground.phase }, { on := 5, ground := Go.Ground.phase }, { on := 6, ground := Go.Ground.phase }, { on := 7, ground := Go.Ground.phase }, { on := 8, ground := Go.Ground.phase }, { on := 9, ground := Go.Ground.phase }, { on := 10, ground := Go.Ground.phase }, { on := 11, ground := Go.Ground.phase }, { on := 12, ground := Go.Ground.phase }, { on := 13, ground := Go.Ground.phase }, { on := 14, ground := Go.Ground.phase }, { on := 15, ground := Go.Ground.phase }, { on := 16, ground := Go.Ground.phase }, { on := 17, ground := Go.Ground.phase }, { on := 18, ground := Go.Ground.phase }, { on := 19, ground := Go.Ground.phase }], guard := none }) (v := ?_) rfl (by kernel_rfl) (by kernel_rfl) (by decide) (by kernel_rfl) (by kernel_rfl) (by kernel_rfl) (fun _ _ _ h => h) (Or.inl ⟨by rfl, ?_⟩) (by assumption) ?_
                           rotate_left
                           · intro w' hS; go_simp; (try with_reducible rfl)
                           simp only [Act.put, List.setIfInBounds_toArray, List.set_cons_zero, List.set_cons_succ]
                           refine wpAnyL_ready (rs := [22]) (by kernel_rfl) (by simp) ?_
                           refine AllReadyL.last rfl (fun KQ hK => ?_)
                           go_simp
                           refine hK.out _ _ ?_
                           clear hK KQ
                           refine wpAnyL_done (by kernel_rfl) ?_ _
                           go_wp2_with fail
                           go_meet
                           exact ⟨_, _, rfl, HN7.out⟩
                     case rest =>
                       obtain ⟨vw3, y5, rfl, hX5⟩ := hcut
                       have HX5 : Hid (EB w #[.int .i64 A.k, .slice (some ⟨gn, on, none⟩) A.nx.length cn, .slice (some ⟨ga, oa, none⟩) A.ac.length ca] ob A an2 cn2 aa2 ca2 (M2 ++ [t]) (Ws2 ++ [u ++ [c]]) N2 vi3 vw3 vn2 y5) := hX5
                       clear hX5 HX6 HU HUL
                       obtain ⟨p, hp⟩ : ∃ p, M2.length = p := ⟨_, rfl⟩
                       rw [hp] at HM' HW'
                       obtain ⟨M3, hM3⟩ : ∃ M3, M2 ++ [t] = M3 := ⟨_, rfl⟩
                       obtain ⟨Ws3, hWs3⟩ : ∃ Ws3, Ws2 ++ [u ++ [c]] = Ws3 := ⟨_, rfl⟩
                       obtain ⟨W3, hW3⟩ : ∃ W3, W2 ++ [(i, c)] = W3 := ⟨_, rfl⟩
                       rw [hM3] at HM' HW' HMJ HSJ HX5
                       rw [hWs3] at HW' HX5
                       rw [hW3] at HM'
                       simp only [hp]
                       clear hp hM3 hWs3 hW3
                       obtain ⟨ra, rc, hvn⟩ := own_shape HX5.out.rb.nxt
                       subst hvn
                       obtain ⟨i2, hj, hy0, hy1, hy2⟩ := info_parts Try.info_int
                       have t5 : y5.cell? ⟨ob, 5, none⟩ = some (.slice ra N2.length rc) := cell_at HX5.out.rb.box rfl
                       have hbs : w.heap.size ≤ y5.heap.size := HX5.out.rb.blk
                       have hns := HM'.out.small
                       rw [List.length_append] at hns
                       have hns2 : N2.length ≤ 4096 := by omega
                       clear hns
                       go_wp2_with (at_builtin; go_loud (refine wpList_append_own_at _ rfl _ _ 22 rfl w.heap.size 3 i2 (.int .i64 0) 1 8 Try.underlying22 hj hy0 hy1 hy2 rfl (by decide) _ _ _ rfl (HX5.out.rb.nxt.alloc _) ⟨y5.heap.size, 0, none⟩ 1 1 [.int .i64 (p : Int)] rfl rfl (cell_one_new _ _ _) (by intro u hu; simp at hu; subst hu; rfl) (by unfold maxLen; omega) (by omega) (by simp; omega) ?_; intro v7 w7 ho7 hg7 _ hl7; obtain ⟨a7, c7, rfl⟩ := own_shape ho7; have hN7 := HX5.out.nxtd (q := y5.heap.size + 1) ho7 hg7 (by rcases hl7 with q | q; exact .inl q; exact .inr (q.trans (by rw [World.size_alloc]))) (by omega); have hcs : w7.cell? ⟨ob, 5, none⟩ = some (.slice ra N2.length rc) := cell_at hN7.1 rfl; have hfz : w7.frozen? ⟨ob, 5, none⟩ = false := frozen_blk hN7.1 5; have HN7 : Hid _ := hN7.2; clear hN7 ho7 hg7 hl7 t5))
                       go_roundw
                       case rel => exact ⟨c + 1, _, _, _, _, _, _, _, f', by go_num, by omega, HN7.out, HM'.out, HW'.out, HMJ.out, HSJ.out⟩
                       case measure => simp [Go.RowKit.intOf]; omega
                 · have HNO : Hid (mEl A = none) := HM.out.full HGd.out HMI.out hlt3 (by rw [HT.out]; exact hin) (by omega)
                   have h512 : M2.length = 512 := by omega
                   have HBW : Hid (Below w.heap.size w y5) := HX5.out.rb.below
                   have h5e : ((M2.length : Int) == 512) = true := by rw [beq_iff_eq]; omega
                   have h5d : decide ((M2.length : Int) = 512) = true := decide_eq_true (by omega)
                   have h5d2 : decide (M2.length = 512) = true := decide_eq_true h512
                   clear hin hix h512
                   go_wp2_with fail
                   go_ret2
                   have e1 : bdE A = 140 := by unfold bdE; rw [if_pos (owE_good HGd.out HL64.out), HNO.out]; rfl
                   exact .inl ⟨by rw [e1]; decide, by rw [e1]; rfl, HBW.out⟩
          · have hcI : ¬ (c : Int) < A.k := by omega
            have hcd : decide ((c : Int) < A.k) = false := decide_eq_false hcI
            obtain rfl : c = A.k.toNat := by omega
            have hi512 : i < 512 := by have h1 := (List.getElem?_eq_some_iff.1 HMI.out).1; have h2 := HM.out.most; omega
            go_wp2_with fail
            go_roundw
            case rel => exact ⟨i + 1, _, _, _, _, _, _, _, _, by go_num, by have := (List.getElem?_eq_some_iff.1 HMI.out).1; omega, HX.out, HM.out.next, HWs.out, HSH.out⟩
            case measure => have := (List.getElem?_eq_some_iff.1 HMI.out).1; have := HM.out.most; simp [Go.RowKit.intOf]; omega
       · have hiI : ¬ (i : Int) < M.length := by omega
         have hid : decide ((i : Int) < M.length) = false := decide_eq_false hiI
         have hie : i = M.length := by omega
         have HQ : Hid (RbQ A w (.returned (.tuple #[.pointer (some ⟨ob, 0, none⟩), .int .i64 0])) wr0) := HX.out.done HGd.out HL64.out (HM.out.done hie) HWs.out
         go_wp2_with fail
         go_ret2
         exact HQ.out
end Go.Proofs.Ytabkhoiccjkghaa
