/- The document's Is. -/
import Derived.Test.YthjenemmhlljfaaLc
namespace Go.Proofs.Ythjenemmhlljfaa
open Go Go.RowKit Go.Lib
set_option linter.unusedVariables false

theorem mnA_k {A : Aut} (h : chkA A = 0) : (mnA A).k = A.k := by
  unfold mnA
  rw [if_pos h]
  have G := chkA_good h
  unfold ioA
  obtain ⟨M, N, hb, _⟩ := bgo_total (d := dC A (lvl A A.ac.length)) (K := A.k.toNat) (N := A.ac.length) (x := 0) ⟨G.kn.1, G.kn.2.1⟩ G.n2 (fun s c hs hc => by
    have h1 := (G.at (s := s) (c := c) hs (by have := G.kn.2.2; omega)).2.2
    have := lvl_lt (A := A) A.ac.length (s := dN A s c) (by rw [lvl_len]; exact h1)
    rw [lvl_len] at this
    exact this) 32768 [0] [] (BI.start _ _ _) (fun s hs => by simp at hs; have := G.n1; omega)
  have hb' : bfs (dC A (lvl A A.ac.length)) A.k.toNat 0 = some (M, N) := hb
  rw [hb']

set_option maxHeartbeats 4000000 in
set_option maxRecDepth 100000 in
theorem rIs_any (v : Value) (A : Aut) (w : World) (h : AR w v A) (hm : A.nx.length ≤ 9223372036854775806) (hm2 : A.ac.length ≤ 9223372036854775806) :
    Calls Try.prog 22 #[v] w fun e w' => e = .returned (.tuple #[.bool (isV A), .int .i64 (chkA A)]) ∧ Below w.heap.size w w' := by
  obtain ⟨an, cn, aa, ca, e, k1, k2⟩ := h.is
  have HAR : Hid (∀ y, Below w.heap.size w y → AR y v A) := fun y hy => h.stay hy
  subst e
  clear h k1 k2
  go_enter Try.func22, Try.ntmps22
  go_wp2_with fail
  refine (rminimal_any _ A _ (HAR.out _ (below_new _ _)) hm hm2).mono ?_
  rintro e w1 ⟨v1, vt, rfl, hao, hT, hb1⟩
  have hml := mnA_len A
  have HMK : Hid (chkA A = 0 → isV A = smV (mnA A) A) := fun h => isV_smV A h (mnA_k h)
  have HNO : Hid (chkA A = 80 → isV A = false) := fun h => by show _ = _; unfold isV; rw [decide_eq_false (by rw [h]; decide)]; rfl
  obtain ⟨B, hB⟩ : ∃ B, mnA A = B := ⟨_, rfl⟩
  rw [hB] at hao hml HMK
  obtain ⟨bn, dn, ba, da, rfl, o1, o2⟩ := hao
  obtain ⟨ta, tc, rfl⟩ := own_shape hT
  have HB1 : Hid (Below w.heap.size w w1) := go_on (below_new _ _) hb1
  have HR1 : Hid (RowAt w1 w.heap.size #[.int .i64 A.k, .slice an A.nx.length cn, .slice aa A.ac.length ca]) := RowAt.new hb1
  have HBR : Hid (∀ y, Below w1.heap.size w1 y → AR y (.agg #[.int .i64 B.k, .slice bn B.nx.length dn, .slice ba B.ac.length da]) B) := fun y hy => ⟨_, _, _, _, rfl, (own_sr o1).stay hy, (own_sr o2).stay hy⟩
  have csa : ∀ O o, (w1.alloc O).cell? ⟨w.heap.size, o, none⟩ = (#[.int .i64 A.k, .slice an A.nx.length cn, .slice aa A.ac.length ca] : Array Value)[o]? := fun O => (HR1.out.alloc O).cell
  rcases chkA_cases A with ⟨G, hc⟩ | ⟨G, hc⟩
  · have HC : Hid (chkA A = 0) := hc
    rw [hc]
    have E1 : Hid (∀ y, Below w1.heap.size w1 y → Calls Try.prog 40 #[.agg #[.int .i64 B.k, .slice bn B.nx.length dn, .slice ba B.ac.length da], .agg #[.int .i64 A.k, .slice an A.nx.length cn, .slice aa A.ac.length ca]] y fun e w' => e = .returned (.bool (smV B A)) ∧ Below y.heap.size y w') := fun y hy => rSame_any _ _ B A y (HBR.out y hy) (HAR.out y (go_on HB1.out hy)) (by omega) (by omega) hm hm2
    obtain ⟨p, hp⟩ : ∃ p, smV B A = p := ⟨_, rfl⟩
    rw [hp] at E1
    have HV : Hid (isV A = p) := by show _ = _; rw [HMK.out HC.out, hp]
    clear hp hc G o1 o2 hT hb1 hB HMK HNO
    go_wp2_with (first
        | (go_at_call 40; refine (E1.out _ (below_new _ _)).mono ?_; rintro e y1 ⟨rfl, hy1⟩; have HY1 : Hid (Below w.heap.size w y1) := go_on (go_on HB1.out (below_new _ _)) hy1; clear hy1))
    go_ret2
    exact ⟨by rw [HV.out, HC.out]; rfl, HY1.out⟩
  · have HC : Hid (chkA A = 80) := hc
    have HV : Hid (isV A = false) := HNO.out hc
    rw [hc]
    clear hc o1 o2 hT hb1 hB HMK HNO
    go_wp2_with fail
    go_ret2
    exact ⟨by rw [HV.out, HC.out]; rfl, go_on HB1.out (below_new _ _)⟩
end Go.Proofs.Ythjenemmhlljfaa
