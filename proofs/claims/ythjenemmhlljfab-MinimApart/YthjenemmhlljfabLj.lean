/- minim: apart. -/
import Derived.Test.YthjenemmhlljfabLh
import Derived.Deep.RegionHeld3
namespace Go.Proofs.Ythjenemmhlljfab
open Go Go.RowKit Go.Lib
set_option linter.unusedVariables false

/-- What apart answers. -/
def ApQ (A : Aut) (s t : Nat) (w : World) (e : Ending) (w' : World) : Prop := e = .returned (.tuple #[.string (apS (apO A s t)), .bool (apF (apO A s t))]) ∧ (∀ u, apO A s t = some u → u.length < A.ac.length) ∧ Below w.heap.size w w'

/-- In the midst of a node's letters. -/
def AIn (A : Aut) (K s t : Nat) (V : World) (qb ab g mb : Nat) (ms : Array Value) (i c : Nat) (n : Nod (Nat × Nat)) (wr : World) : Prop := ∃ (Q : List (Nod (Nat × Nat))) (f : List Nat) (r e : Nat → Nat) (vq : Value), AM V qb ab g A.ac.length (nC f) Q.length (Q.flatMap mtC) vq wr ∧ AP A K s t Q i c f r e ∧ Q[i]? = some n ∧ (∀ (j : Nat) (m : Nod (Nat × Nat)), j < i → Q[j]? = some m → sx A A m.p = false) ∧ wr.heap[mb]? = some (.cells ms 64 (0, 0)) ∧ vq.ownBlock ≠ some mb
theorem AIn.step {A : Aut} {K s t : Nat} {V : World} {qb ab g mb : Nat} {ms : Array Value} {i c : Nat} {n : Nod (Nat × Nat)} {w y y3 : World} {Q : List (Nod (Nat × Nat))} {f : List Nat} {r e : Nat → Nat} {vq : Value}
    (hA : AM V qb ab g A.ac.length (nC f) Q.length (Q.flatMap mtC) vq w) (hP : AP A K s t Q i c f r e) (hn : Q[i]? = some n) (hf : ∀ (j : Nat) (m : Nod (Nat × Nat)), j < i → Q[j]? = some m → sx A A m.p = false) (hm : w.heap[mb]? = some (.cells ms 64 (0, 0))) (hv : vq.ownBlock ≠ some mb)
    (hc : c < K) (hx : dN A n.p.1 c < A.ac.length) (hy : dN A n.p.2 c < A.ac.length) (hb : Below w.heap.size w y)
    (h : MtR V qb ab g A.ac.length r Q.length (Q.flatMap mtC) (dN A n.p.1 c) (dN A n.p.2 c) [.int .i64 (dN A n.p.1 c : Nat), .int .i64 (dN A n.p.2 c : Nat), .int .i64 (i : Nat), .int .u8 (97 + (c : Int))] vq y y3) : AIn A K s t V qb ab g mb ms i (c + 1) n y3 := by
  have hil := (List.getElem?_eq_some_iff.1 hn).1
  have hml := (Array.getElem?_eq_some_iff.1 hm).1
  have hmy : y.heap[mb]? = some (.cells ms 64 (0, 0)) := (hb.block _ hml).trans hm
  have nq : mb ≠ qb := fun e => by have := hA.q; rw [← e, hm] at this; cases this
  have ng : mb ≠ g := fun e => by obtain ⟨_, cur, hg⟩ := hA.blk; rw [← e, hm] at hg; cases hg
  have hs := hb.size
  have kv : ∀ vq', KP qb g vq vq' y y3 → y3.heap[mb]? = some (.cells ms 64 (0, 0)) ∧ vq'.ownBlock ≠ some mb := fun vq' k => ⟨(k.keep mb (by omega) nq ng hv).trans hmy, fun e => by
    rcases k.at' mb e with q | q
    · exact hv q
    · omega⟩
  rcases h with ⟨hr, f', e', vq', hu, hA', hk⟩ | ⟨hr, f', e', vq', hu, hA', hk⟩
  · exact ⟨Q, f', r, e', vq', hA', hP.old hn hx hy hr hu, hn, hf, kv vq' hk⟩
  · refine ⟨Q ++ [⟨dd A A n.p c, i, c, n.w ++ [c]⟩], f', _, e', vq', ?_, hP.new hn hc hx hy hr hu, ?_, fun j m hj hjm => ?_, kv vq' hk⟩
    · rw [List.length_append, List.flatMap_append]
      have e1 : [(⟨dd A A n.p c, i, c, n.w ++ [c]⟩ : Nod (Nat × Nat))].flatMap mtC = [.int .i64 (dN A n.p.1 c : Nat), .int .i64 (dN A n.p.2 c : Nat), .int .i64 (i : Nat), .int .u8 (97 + (c : Int))] := by
        simp [mtC, lb, dd]
      rw [e1]
      exact hA'
    · rw [List.getElem?_append_left hil]; exact hn
    · rw [List.getElem?_append_left (by omega)] at hjm; exact hf j m hj hjm

set_option maxHeartbeats 8000000 in
set_option maxRecDepth 100000 in
theorem mapart_any (v : Value) (A : Aut) (w : World) (h : AR w v A) (G : Good A) (s t : Nat) (hs : s < A.ac.length) (ht : t < A.ac.length) :
    Calls Try.prog 24 #[v, .int .i64 s, .int .i64 t] w (ApQ A s t w) := by
  obtain ⟨an, cn, aa, ca, e, k1, k2⟩ := h.is
  have hn1 := G.n1
  have hn2 := G.n2
  have HAR : Hid (∀ y, Below w.heap.size w y → AR y v A) := fun y hy => h.stay hy
  obtain ⟨ga, oa, rfl, _, _⟩ := k2.bool (i := 0) (by omega)
  have CA : Hid (∀ y i, Below w.heap.size w y → i < A.ac.length → y.cell? ⟨ga, oa + i, none⟩ = some (.bool (A.ac.getD i false))) := fun y i hy hi => by
    obtain ⟨g', o', e', _, hc'⟩ := (k2.stay hy).bool hi
    simp only [Option.some.injEq, Addr.mk.injEq] at e'
    obtain ⟨rfl, rfl, _⟩ := e'
    exact hc'
  have HG : Hid (Good A) := G
  have hk1 := G.k1
  have hk8 := G.k8
  obtain ⟨K, hK⟩ : ∃ K : Nat, A.k.toNat = K := ⟨_, rfl⟩
  have HKK : Hid (A.k = (K : Int) ∧ 1 ≤ K ∧ K ≤ 8 ∧ A.k.toNat = K) := ⟨by omega, by omega, by omega, hK⟩
  subst e
  clear h k1 k2 G hk1 hk8 hK
  obtain ⟨V, hV⟩ : ∃ V, V = w.alloc (.cells #[.int .i64 A.k, .slice an A.nx.length cn, .slice (some ⟨ga, oa, none⟩) A.ac.length ca] 25) := ⟨_, rfl⟩
  have HVE : Hid (V = w.alloc (.cells #[.int .i64 A.k, .slice an A.nx.length cn, .slice (some ⟨ga, oa, none⟩) A.ac.length ca] 25)) := hV
  have HVS : Hid (V.heap.size = w.heap.size + 1) := by show _ = _; rw [hV]; simp
  have HBV : Hid (Below w.heap.size w V) := by show Below _ _ _; rw [hV]; exact below_new _ _
  have HRV : Hid (RowAt V w.heap.size #[.int .i64 A.k, .slice an A.nx.length cn, .slice (some ⟨ga, oa, none⟩) A.ac.length ca]) := by show RowAt _ _ _; rw [hV]; exact RowAt.last _ _ _
  clear hV
  go_enter Try.func24, Try.ntmps24
  go_wp2_with fail
  rw [← HVE.out]
  obtain ⟨W2, hW2⟩ : ∃ W2, W2 = V.alloc (.cells #[.slice none 0 0] 61) := ⟨_, rfl⟩
  have hW2s : W2.heap.size = w.heap.size + 2 := by rw [hW2]; simp; have := HVS.out; omega
  have HQ2 : Hid (W2.heap[w.heap.size + 1]? = some (.cells #[.slice none 0 0] 61 (0, 0))) := by
    have := heap_alloc_last V (.cells #[.slice none 0 0] 61)
    rw [HVS.out] at this
    rw [hW2]
    exact this
  have HB2 : Hid (Below V.heap.size V W2) := by show Below _ _ _; rw [hW2]; exact below_new _ _
  rw [← hW2]
  clear hW2
  refine (alone_any A.ac.length hn2 W2).mono ?_
  rintro e w1 ⟨rfl, ho1, hb1⟩
  rw [hW2s] at ho1 ⊢
  have HM0 : Hid (AM V (w.heap.size + 1) w1.heap.size (w.heap.size + 2) A.ac.length (nC (List.range A.ac.length)) 0 [] (.slice none 0 0) (w1.alloc (.cells #[.slice (some ⟨w.heap.size + 2, 0, none⟩) A.ac.length A.ac.length] 22))) := by
    have hq := (hb1.block _ (Array.getElem?_eq_some_iff.1 HQ2.out).1).trans HQ2.out
    refine ⟨((below_new _ _).block _ (Array.getElem?_eq_some_iff.1 hq).1).trans hq, heap_alloc_last _ _, (own_mono ho1 (by have := HVS.out; omega)).alloc _, World.ownsRow_nil _ _ _ _, go_on (go_on HB2.out hb1) (below_new _ _), by have := HVS.out; omega⟩
  have HS1 : Hid (w.heap.size + 2 ≤ w1.heap.size) := by have := hb1.size; show _ ≤ _; omega
  clear ho1 hb1 hW2s HQ2 HB2
  go_wp2_with fail
  refine (meet_any V (w.heap.size + 1) w1.heap.size (w.heap.size + 2) A.ac.length hn2 (List.range A.ac.length) (fun x => x) (fun _ => 0) (UF.id _) 0 (by omega) [] (.slice none 0 0) _ HM0.out s t hs ht 0 0).mono ?_
  rintro e w2 ⟨rfl, hm2⟩
  rcases hm2 with ⟨hr, f1, e1, vq, hu, hA, hkp⟩ | ⟨hr, f1, e1, vq, hu, hA, hkp⟩
  · have hst : s = t := hr
    subst hst
    have HO : Hid (apO A s s = none) := apO_same A s
    have HB : Hid (Below w.heap.size w w2) := go_on HBV.out hA.below
    have cq : w2.cell? ⟨w.heap.size + 1, 0, none⟩ = some vq := cell_of hA.q
    obtain ⟨qa, qc, rfl⟩ := own_shape hA.que
    clear hu hA hkp hr HM0
    go_wp2_with fail
    go_loopw [11] (fun vi wr => vi = .int .i64 0 ∧ wr = w2) (fun vi _ => 0)
    case atStart => exact ⟨rfl, rfl⟩
    case round =>
      obtain ⟨rfl, rfl⟩ := hrel
      go_wp2_with fail
      go_ret2
      exact ⟨by rw [HO.out]; rfl, fun u hu => (by rw [HO.out] at hu; cases hu), HB.out⟩
  · have HAP : Hid (AP A K s t [⟨(s, t), 0, 0, []⟩] 0 0 f1 (jn (fun x => x) s t) e1) := AP.start hs ht hr hu
    have HA1 : Hid (AM V (w.heap.size + 1) w1.heap.size (w.heap.size + 2) A.ac.length (nC f1) 1 (([⟨(s, t), 0, 0, []⟩] : List (Nod (Nat × Nat))).flatMap mtC) vq w2) := hA
    clear hu hA hkp hr HM0
    go_wp2_with fail
    go_loopw [11, 12] (fun vi _ wr => ∃ (i : Nat) (Q : List (Nod (Nat × Nat))) (f : List Nat) (r e : Nat → Nat) (vq : Value), vi = .int .i64 i ∧ i ≤ Q.length ∧ AM V (w.heap.size + 1) w1.heap.size (w.heap.size + 2) A.ac.length (nC f) Q.length (Q.flatMap mtC) vq wr ∧ AP A K s t Q i 0 f r e ∧ (∀ (j : Nat) (m : Nod (Nat × Nat)), j < i → Q[j]? = some m → sx A A m.p = false)) (fun vi _ _ => 4096 - (intOf vi).toNat)
    case atStart => exact ⟨0, [⟨(s, t), 0, 0, []⟩], f1, _, e1, vq, rfl, Nat.zero_le _, HA1.out, HAP.out, fun j m hj => by omega⟩
    case round =>
      clear HAP HA1 vq
      obtain ⟨i, Q, f, r, e, vq, rfl, hiQ, hA, hP, hf⟩ := hrel
      have hQl := hP.len hs
      obtain ⟨qa, qc, rfl⟩ := own_shape hA.que
      have cq : wr.cell? ⟨w.heap.size + 1, 0, none⟩ = some (.slice qa Q.length qc) := cell_of hA.q
      have HA : Hid (AM V (w.heap.size + 1) w1.heap.size (w.heap.size + 2) A.ac.length (nC f) Q.length (Q.flatMap mtC) (.slice qa Q.length qc) wr) := hA
      have HP : Hid (AP A K s t Q i 0 f r e) := hP
      have HF : Hid (∀ (j : Nat) (m : Nod (Nat × Nat)), j < i → Q[j]? = some m → sx A A m.p = false) := hf
      by_cases hlt : i < Q.length
      · have hiI : (i : Int) < Q.length := by omega
        obtain ⟨n, hn⟩ : ∃ n, Q[i]? = some n := ⟨Q[i], List.getElem?_eq_getElem hlt⟩
        have HN : Hid (Q[i]? = some n) := hn
        obtain ⟨gq, rfl⟩ : ∃ gq, qa = some ⟨gq, 0, none⟩ := by
          rcases hA.que.2 with ⟨_, h0⟩ | ⟨g', cap', cur, hv, _⟩
          · omega
          · simp only [Value.slice.injEq] at hv
            exact ⟨g', hv.1⟩
        have c0 := que_cell hA.que hn (j := 0) (by omega)
        have c1 := que_cell hA.que hn (j := 1) (by omega)
        have c2 := que_cell hA.que hn (j := 2) (by omega)
        have c3 := que_cell hA.que hn (j := 3) (by omega)
        obtain ⟨hX, hY⟩ := hP.oks n (List.mem_of_getElem? hn)
        have HXY : Hid (n.p.1 < A.ac.length ∧ n.p.2 < A.ac.length) := ⟨hX, hY⟩
        obtain ⟨X, hXe⟩ : ∃ X, n.p.1 = X := ⟨_, rfl⟩
        obtain ⟨Y, hYe⟩ : ∃ Y, n.p.2 = Y := ⟨_, rfl⟩
        obtain ⟨Uq, hUe⟩ : ∃ Uq, n.u = Uq := ⟨_, rfl⟩
        obtain ⟨L, hLe⟩ : ∃ L, lb n = L := ⟨_, rfl⟩
        have HXE : Hid (n.p.1 = X ∧ n.p.2 = Y ∧ n.u = Uq ∧ lb n = L) := ⟨hXe, hYe, hUe, hLe⟩
        have c0' : wr.cell? ⟨gq, i * 4, none⟩ = some (.int .i64 (X : Int)) := by rw [← hXe]; exact c0
        have c1' : wr.cell? ⟨gq, i * 4 + 1, none⟩ = some (.int .i64 (Y : Int)) := by rw [← hYe]; exact c1
        have c2' : wr.cell? ⟨gq, i * 4 + 2, none⟩ = some (.int .i64 (Uq : Int)) := by rw [← hUe]; exact c2
        have c3' : wr.cell? ⟨gq, i * 4 + 3, none⟩ = some (.int .u8 L) := by rw [← hLe]; exact c3
        rw [hXe] at hX
        rw [hYe] at hY
        have hXI : (X : Int) < A.ac.length := by omega
        have hYI : (Y : Int) < A.ac.length := by omega
        clear c0 c1 c2 c3 hXe hYe hUe hLe hn hA hP hf
        go_wp2_with fail
        obtain ⟨mb, hmb⟩ : ∃ mb, wr.heap.size = mb := ⟨_, rfl⟩
        obtain ⟨wm, hwm⟩ : ∃ wm, wm = wr.alloc (.cells #[.int .i64 (X : Int), .int .i64 (Y : Int), .int .i64 (Uq : Int), .int .u8 L] 64) := ⟨_, rfl⟩
        have HAm : Hid (AM V (w.heap.size + 1) w1.heap.size (w.heap.size + 2) A.ac.length (nC f) Q.length (Q.flatMap mtC) (.slice (some ⟨gq, 0, none⟩) Q.length qc) wm) := by rw [hwm]; exact HA.out.call (below_new _ _)
        have HMB : Hid (wm.heap[mb]? = some (.cells #[.int .i64 (X : Int), .int .i64 (Y : Int), .int .i64 (Uq : Int), .int .u8 L] 64 (0, 0))) := by
          have := heap_alloc_last wr (.cells #[.int .i64 (X : Int), .int .i64 (Y : Int), .int .i64 (Uq : Int), .int .u8 L] 64)
          rw [hmb] at this
          rw [hwm]; exact this
        have HNV : Hid ((Value.slice (some ⟨gq, 0, none⟩) Q.length qc).ownBlock ≠ some mb) := fun e => by
          have := (HA.out.que.lt mb e).2
          omega
        rw [← hwm, hmb]
        clear hwm hmb c0' c1' c2' c3' cq
        have hbm := go_on HBV.out HAm.out.below
        have ca1 := CA.out wm X hbm hX
        have ca2 := CA.out wm Y hbm hY
        obtain ⟨x, hx⟩ : ∃ x, A.ac.getD X false = x := ⟨_, rfl⟩
        obtain ⟨y0, hy0⟩ : ∃ y0, A.ac.getD Y false = y0 := ⟨_, rfl⟩
        rw [hx] at ca1
        rw [hy0] at ca2
        have HSX : Hid (sx A A n.p = (x != y0)) := by show _ = _; unfold sx aN; rw [HXE.out.1, HXE.out.2.1, hx, hy0]
        have S0 : (∀ o, wm.drew.cell? ⟨w.heap.size, o, none⟩ = (#[.int .i64 A.k, .slice an A.nx.length cn, .slice (some ⟨ga, oa, none⟩) A.ac.length ca] : Array Value)[o]?) ∧ (∀ o, wm.drew.cell? ⟨mb, o, none⟩ = (#[.int .i64 (X : Int), .int .i64 (Y : Int), .int .i64 (Uq : Int), .int .u8 L] : Array Value)[o]?) ∧ wm.drew.cell? ⟨ga, oa + X, none⟩ = some (.bool x) ∧ wm.drew.cell? ⟨ga, oa + Y, none⟩ = some (.bool y0) := ⟨(HRV.out.stay HAm.out.below).cell, fun o => cell_of HMB.out, ca1, ca2⟩
        clear ca1 ca2 hx hy0 hbm
        obtain ⟨wz, hwz⟩ : ∃ wz, wm.drew = wz := ⟨_, rfl⟩
        have HAz : Hid (AM V (w.heap.size + 1) w1.heap.size (w.heap.size + 2) A.ac.length (nC f) Q.length (Q.flatMap mtC) (.slice (some ⟨gq, 0, none⟩) Q.length qc) wz) := by rw [← hwz]; exact HAm.out.call (Below.refl _ _).drew
        have HMZ : Hid (wz.heap[mb]? = some (.cells #[.int .i64 (X : Int), .int .i64 (Y : Int), .int .i64 (Uq : Int), .int .u8 L] 64 (0, 0))) := by rw [← hwz]; exact HMB.out
        by_cases hxy : x = y0
        case neg =>
          have HO : Hid (apO A s t = some n.w) := by
            show _ = _
            unfold apO
            rw [HKK.out.2.2.2]
            refine HP.out.qi.first HN.out ?_ HF.out
            rw [HSX.out]
            simpa using hxy
          have HLN : Hid (n.w.length < A.ac.length) := by
            have h1 := (HP.out.qi.leads i n HN.out).2.2
            show _ < _
            omega
          have HWO : Hid (Calls Try.prog 36 #[.slice (some ⟨gq, 0, none⟩) Q.length qc, .int .i64 i] wz fun e w' => e = .returned (.string ⟨(lB n.w).toArray⟩) ∧ Below wz.heap.size wz w') := wordOf_any V.heap.size gq qc Q K HKK.out.2.2.1 (by omega) HP.out.qi.ups i n HN.out wz HAz.out.que
          have cqz : wz.cell? ⟨w.heap.size + 1, 0, none⟩ = some (.slice (some ⟨gq, 0, none⟩) Q.length qc) := cell_of HAz.out.q
          cases x <;> cases y0 <;> first | exact absurd rfl hxy | skip
          · clear hxy
            go_region_held3 (fun y => (∀ o, y.cell? ⟨w.heap.size, o, none⟩ = (#[.int .i64 A.k, .slice an A.nx.length cn, .slice (some ⟨ga, oa, none⟩) A.ac.length ca] : Array Value)[o]?) ∧ (∀ o, y.cell? ⟨mb, o, none⟩ = (#[.int .i64 (X : Int), .int .i64 (Y : Int), .int .i64 (Uq : Int), .int .u8 L] : Array Value)[o]?) ∧ y.cell? ⟨ga, oa + X, none⟩ = some (.bool false) ∧ y.cell? ⟨ga, oa + Y, none⟩ = some (.bool true)) (first | exact S0 | assumption) (fail)
            clear S0
            rw [hwz]
            clear hwz
            go_wp2_with fail
            refine HWO.out.mono ?_
            rintro e w9 ⟨rfl, hb9⟩
            have HB9 : Hid (Below w.heap.size w w9) := go_on (go_on HBV.out HAz.out.below) hb9
            clear hb9
            go_wp2_with fail
            go_ret2
            exact ⟨by rw [HO.out]; rfl, fun u hu => (by rw [HO.out, Option.some.injEq] at hu; rw [← hu]; exact HLN.out), HB9.out⟩
          · clear hxy
            go_region_held3 (fun y => (∀ o, y.cell? ⟨w.heap.size, o, none⟩ = (#[.int .i64 A.k, .slice an A.nx.length cn, .slice (some ⟨ga, oa, none⟩) A.ac.length ca] : Array Value)[o]?) ∧ (∀ o, y.cell? ⟨mb, o, none⟩ = (#[.int .i64 (X : Int), .int .i64 (Y : Int), .int .i64 (Uq : Int), .int .u8 L] : Array Value)[o]?) ∧ y.cell? ⟨ga, oa + X, none⟩ = some (.bool true) ∧ y.cell? ⟨ga, oa + Y, none⟩ = some (.bool false)) (first | exact S0 | assumption) (fail)
            clear S0
            rw [hwz]
            clear hwz
            go_wp2_with fail
            refine HWO.out.mono ?_
            rintro e w9 ⟨rfl, hb9⟩
            have HB9 : Hid (Below w.heap.size w w9) := go_on (go_on HBV.out HAz.out.below) hb9
            clear hb9
            go_wp2_with fail
            go_ret2
            exact ⟨by rw [HO.out]; rfl, fun u hu => (by rw [HO.out, Option.some.injEq] at hu; rw [← hu]; exact HLN.out), HB9.out⟩
        case pos =>
          subst hxy
          have HSF : Hid (sx A A n.p = false) := by show _ = _; rw [HSX.out]; simp
          go_region_held3 (fun y => (∀ o, y.cell? ⟨w.heap.size, o, none⟩ = (#[.int .i64 A.k, .slice an A.nx.length cn, .slice (some ⟨ga, oa, none⟩) A.ac.length ca] : Array Value)[o]?) ∧ (∀ o, y.cell? ⟨mb, o, none⟩ = (#[.int .i64 (X : Int), .int .i64 (Y : Int), .int .i64 (Uq : Int), .int .u8 L] : Array Value)[o]?) ∧ y.cell? ⟨ga, oa + X, none⟩ = some (.bool x) ∧ y.cell? ⟨ga, oa + Y, none⟩ = some (.bool x)) (first | exact S0 | assumption) (fail)
          clear S0
          rw [hwz]
          clear hwz
          have csz := (HRV.out.stay HAz.out.below).cell
          have HI0 : Hid (AIn A K s t V (w.heap.size + 1) w1.heap.size (w.heap.size + 2) mb #[.int .i64 (X : Int), .int .i64 (Y : Int), .int .i64 (Uq : Int), .int .u8 L] i 0 n wz) := ⟨Q, f, r, e, _, HAz.out, HP.out, HN.out, HF.out, HMZ.out, HNV.out⟩
          go_wp2_with fail
          clear csz
          go_loopw [52, 13] (fun vc _ wr => ∃ c : Nat, vc = .int .i64 c ∧ c ≤ K ∧ AIn A K s t V (w.heap.size + 1) w1.heap.size (w.heap.size + 2) mb #[.int .i64 (X : Int), .int .i64 (Y : Int), .int .i64 (Uq : Int), .int .u8 L] i c n wr) (fun vc _ _ => K - (intOf vc).toNat)
          case atStart => exact ⟨0, rfl, Nat.zero_le _, HI0.out⟩
          case round =>
            clear HI0 HAz HMZ HAm HMB HNV HA HP HF HN hiI hlt hQl hiQ
            obtain ⟨c, rfl, hcK, hI⟩ := hrel
            by_cases hc : c < K
            · have hcI : (c : Int) < A.k := by have := HKK.out.1; omega
              have hc8 : c < 8 := by have := HKK.out.2.2.1; omega
              obtain ⟨Q, f, r, e, vq, hA, hP, hn, hf, hm, hv⟩ := hI
              have hQl := hP.len hs
              have hilt := (List.getElem?_eq_some_iff.1 hn).1
              have hd1 := (HG.out.at HXY.out.1 hcI).2.2
              have hd2 := (HG.out.at HXY.out.2 hcI).2.2
              have HND : Hid (∀ y y3, Below wr.heap.size wr y → MtR V (w.heap.size + 1) w1.heap.size (w.heap.size + 2) A.ac.length r Q.length (Q.flatMap mtC) (dN A n.p.1 c) (dN A n.p.2 c) [.int .i64 (dN A n.p.1 c : Nat), .int .i64 (dN A n.p.2 c : Nat), .int .i64 (i : Nat), .int .u8 (97 + (c : Int))] vq y y3 → AIn A K s t V (w.heap.size + 1) w1.heap.size (w.heap.size + 2) mb #[.int .i64 (X : Int), .int .i64 (Y : Int), .int .i64 (Uq : Int), .int .u8 L] i (c + 1) n y3) := fun y y3 hy h3 => AIn.step hA hP hn hf hm hv hc hd1 hd2 hy h3
              have HMT : Hid (∀ y, Below wr.heap.size wr y → Calls Try.prog 34 #[.agg #[.int .i64 (dN A n.p.1 c : Nat), .int .i64 (dN A n.p.2 c : Nat), .int .i64 (i : Nat), .int .u8 (97 + (c : Int))], .pointer (some ⟨w1.heap.size, 0, none⟩), .pointer (some ⟨w.heap.size + 1, 0, none⟩)] y (MtQ V (w.heap.size + 1) w1.heap.size (w.heap.size + 2) A.ac.length r Q.length (Q.flatMap mtC) (dN A n.p.1 c) (dN A n.p.2 c) [.int .i64 (dN A n.p.1 c : Nat), .int .i64 (dN A n.p.2 c : Nat), .int .i64 (i : Nat), .int .u8 (97 + (c : Int))] vq y)) := fun y hy => meet_any V _ _ _ A.ac.length hn2 f r e hP.uf Q.length (by omega) _ vq y (hA.call hy) _ _ hd1 hd2 _ _
              rw [HXE.out.1, HXE.out.2.1] at HND HMT
              rw [HXE.out.1] at hd1
              rw [HXE.out.2.1] at hd2
              have HXY' : Hid (X < A.ac.length ∧ Y < A.ac.length) := ⟨by rw [← HXE.out.1]; exact HXY.out.1, by rw [← HXE.out.2.1]; exact HXY.out.2⟩
              obtain ⟨D1, hD1⟩ : ∃ D, dN A X c = D := ⟨_, rfl⟩
              obtain ⟨D2, hD2⟩ : ∃ D, dN A Y c = D := ⟨_, rfl⟩
              have HT1 : Hid (∀ y, Below V.heap.size V y → Calls Try.prog 29 #[.agg #[.int .i64 A.k, .slice an A.nx.length cn, .slice (some ⟨ga, oa, none⟩) A.ac.length ca], .int .i64 (X : Int), .int .i64 (c : Int)] y fun e w' => e = .returned (.int .i64 (D1 : Int)) ∧ Below y.heap.size y w') := fun y hy => by rw [← hD1]; exact mstep_any _ A y (HAR.out y (go_on HBV.out hy)) HG.out X c HXY'.out.1 hcI
              have HT2 : Hid (∀ y, Below V.heap.size V y → Calls Try.prog 29 #[.agg #[.int .i64 A.k, .slice an A.nx.length cn, .slice (some ⟨ga, oa, none⟩) A.ac.length ca], .int .i64 (Y : Int), .int .i64 (c : Int)] y fun e w' => e = .returned (.int .i64 (D2 : Int)) ∧ Below y.heap.size y w') := fun y hy => by rw [← hD2]; exact mstep_any _ A y (HAR.out y (go_on HBV.out hy)) HG.out Y c HXY'.out.2 hcI
              rw [hD1, hD2] at HND HMT
              obtain ⟨Lc, hLc⟩ : ∃ Lc : Int, 97 + (c : Int) = Lc := ⟨_, rfl⟩
              rw [hLc] at HND HMT
              have hw1 : IntKind.u8.wrap (c : Int) = (c : Int) := by rw [IntKind.wrap_u8]; omega
              have hw2 : IntKind.u8.wrap (97 + (c : Int)) = Lc := by rw [IntKind.wrap_u8]; omega
              have hml := (Array.getElem?_eq_some_iff.1 hm).1
              have KK : Hid (∀ y1 y2, Below y1.heap.size y1 y2 → ((∀ o, y1.cell? ⟨w.heap.size, o, none⟩ = (#[.int .i64 A.k, .slice an A.nx.length cn, .slice (some ⟨ga, oa, none⟩) A.ac.length ca] : Array Value)[o]?) ∧ (∀ o, y1.cell? ⟨mb, o, none⟩ = (#[.int .i64 (X : Int), .int .i64 (Y : Int), .int .i64 (Uq : Int), .int .u8 L] : Array Value)[o]?) ∧ Below V.heap.size V y1 ∧ mb < y1.heap.size) → ((∀ o, y2.cell? ⟨w.heap.size, o, none⟩ = (#[.int .i64 A.k, .slice an A.nx.length cn, .slice (some ⟨ga, oa, none⟩) A.ac.length ca] : Array Value)[o]?) ∧ (∀ o, y2.cell? ⟨mb, o, none⟩ = (#[.int .i64 (X : Int), .int .i64 (Y : Int), .int .i64 (Uq : Int), .int .u8 L] : Array Value)[o]?) ∧ Below V.heap.size V y2 ∧ mb < y2.heap.size)) := fun y1 y2 hy h => ⟨((HRV.out.stay h.2.2.1).stay hy).cell, fun o => (below_cell hy h.2.2.2).trans (h.2.1 o), go_on h.2.2.1 hy, Nat.lt_of_lt_of_le h.2.2.2 hy.size⟩
              have KE : Hid (∀ y3, AIn A K s t V (w.heap.size + 1) w1.heap.size (w.heap.size + 2) mb #[.int .i64 (X : Int), .int .i64 (Y : Int), .int .i64 (Uq : Int), .int .u8 L] i (c + 1) n y3 → ((∀ o, y3.cell? ⟨w.heap.size, o, none⟩ = (#[.int .i64 A.k, .slice an A.nx.length cn, .slice (some ⟨ga, oa, none⟩) A.ac.length ca] : Array Value)[o]?) ∧ (∀ o, y3.cell? ⟨mb, o, none⟩ = (#[.int .i64 (X : Int), .int .i64 (Y : Int), .int .i64 (Uq : Int), .int .u8 L] : Array Value)[o]?) ∧ Below V.heap.size V y3 ∧ mb < y3.heap.size)) := fun y3 h3 => by
                obtain ⟨Q', f', r', e', vq', hA', _, _, _, hm', _⟩ := h3
                exact ⟨(HRV.out.stay hA'.below).cell, fun o => cell_of hm', hA'.below, (Array.getElem?_eq_some_iff.1 hm').1⟩
              have S0 : (∀ o, wr.drew.cell? ⟨w.heap.size, o, none⟩ = (#[.int .i64 A.k, .slice an A.nx.length cn, .slice (some ⟨ga, oa, none⟩) A.ac.length ca] : Array Value)[o]?) ∧ (∀ o, wr.drew.cell? ⟨mb, o, none⟩ = (#[.int .i64 (X : Int), .int .i64 (Y : Int), .int .i64 (Uq : Int), .int .u8 L] : Array Value)[o]?) ∧ Below V.heap.size V wr.drew ∧ mb < wr.drew.heap.size := ⟨(HRV.out.stay hA.below).cell, fun o => cell_of hm, hA.below.drew, hml⟩
              clear hA hP hn hf hm hv hd1 hd2 hD1 hD2 hLc hml
              go_wp2_with fail
              go_region_held3 (fun y => (∀ o, y.cell? ⟨w.heap.size, o, none⟩ = (#[.int .i64 A.k, .slice an A.nx.length cn, .slice (some ⟨ga, oa, none⟩) A.ac.length ca] : Array Value)[o]?) ∧ (∀ o, y.cell? ⟨mb, o, none⟩ = (#[.int .i64 (X : Int), .int .i64 (Y : Int), .int .i64 (Uq : Int), .int .u8 L] : Array Value)[o]?) ∧ Below V.heap.size V y ∧ mb < y.heap.size) (first | exact S0 | assumption | exact KK.out _ _ (by assumption) (by assumption)) (first
                | (go_at_call 34; refine (HMT.out _ (by first | exact go_on (go_on (Below.refl _ _).drew hy1) hy2 | exact go_on (go_on (Below.refl _ _).drew hy2) hy1)).mono ?_; rintro e y3 ⟨rfl, hm3⟩; have hI3 := HND.out _ y3 (by first | exact go_on (go_on (Below.refl _ _).drew hy1) hy2 | exact go_on (go_on (Below.refl _ _).drew hy2) hy1) hm3; have HI3 : Hid (AIn A K s t V (w.heap.size + 1) w1.heap.size (w.heap.size + 2) mb #[.int .i64 (X : Int), .int .i64 (Y : Int), .int .i64 (Uq : Int), .int .u8 L] i (c + 1) n y3) := hI3; have hS3 := KE.out y3 hI3; clear hm3 hI3)
                | (go_at_call_of 29 (Value.int IntKind.i64 (X : Int)); refine (HT1.out _ (And.left (And.right (And.right (by assumption))))).mono ?_; rintro e y1 ⟨rfl, hy1⟩)
                | (go_at_call_of 29 (Value.int IntKind.i64 (Y : Int)); refine (HT2.out _ (And.left (And.right (And.right (by assumption))))).mono ?_; rintro e y2 ⟨rfl, hy2⟩))
              all_goals (
                go_wp2_with fail
                go_roundw
                case rel => exact ⟨c + 1, by go_num, by omega, HI3.out⟩
                case measure => simp [intOf]; omega)
            · have hcI : ¬ (c : Int) < A.k := by have := HKK.out.1; omega
              have hcE : c = K := by omega
              obtain ⟨Q, f, r, e, vq, hA, hP, hn, hf, hm, hv⟩ := hI
              have hil := (List.getElem?_eq_some_iff.1 hn).1
              have hQl := hP.len hs
              have HEN : Hid (∃ (Q : List (Nod (Nat × Nat))) (f : List Nat) (r e : Nat → Nat) (vq : Value), i + 1 ≤ Q.length ∧ AM V (w.heap.size + 1) w1.heap.size (w.heap.size + 2) A.ac.length (nC f) Q.length (Q.flatMap mtC) vq wr ∧ AP A K s t Q (i + 1) 0 f r e ∧ (∀ (j : Nat) (m : Nod (Nat × Nat)), j < i + 1 → Q[j]? = some m → sx A A m.p = false)) := by
                refine ⟨Q, f, r, e, vq, hil, hA, ?_, fun j m hj hjm => ?_⟩
                · rw [hcE] at hP; exact hP.next
                · by_cases q : j < i
                  · exact hf j m q hjm
                  · have : j = i := by omega
                    rw [this, hn, Option.some.injEq] at hjm
                    rw [← hjm]; exact HSF.out
              have hi4 : i < 4096 := by omega
              clear hA hP hn hf hm hv hcE hil hQl
              go_wp2_with fail
              go_roundw
              case rel =>
                obtain ⟨Q, f, r, e, vq, h1, h2, h3, h4⟩ := HEN.out
                exact ⟨i + 1, Q, f, r, e, vq, by go_num, h1, h2, h3, h4⟩
              case measure => simp [intOf]; omega
      · have hiI : ¬ (i : Int) < Q.length := by omega
        have hiE : i = Q.length := by omega
        have HO : Hid (apO A s t = none) := by
          show _ = _
          unfold apO
          rw [HKK.out.2.2.2]
          refine lsh_none (HP.out.qi.none (by omega) (fun m hm => ?_))
          obtain ⟨j, hj⟩ := List.getElem?_of_mem hm
          exact HF.out j m (by have := (List.getElem?_eq_some_iff.1 hj).1; omega) hj
        have HB : Hid (Below w.heap.size w wr) := go_on HBV.out hA.below
        clear hA hP hf hiE
        go_wp2_with fail
        go_ret2
        exact ⟨by rw [HO.out]; rfl, fun u hu => (by rw [HO.out] at hu; cases hu), HB.out⟩
end Go.Proofs.Ythjenemmhlljfab
