/- minim: Is. -/
import Derived.Test.YthjenemmhlljfabMu
import Derived.Test.YthjenemmhlljfabMm
namespace Go.Proofs.Ythjenemmhlljfab
open Go Go.RowKit Go.Lib
set_option linter.unusedVariables false

theorem mnA_len (A : Aut) : (mnA A).nx.length ≤ 32768 ∧ (mnA A).ac.length ≤ 4096 := by
  unfold mnA
  split
  · rename_i hc
    have G := chkA_good hc
    unfold ioA
    split
    · rename_i m n hb
      obtain ⟨b1, b2⟩ := bfs_sure ⟨G.kn.1, G.kn.2.1⟩ hb
      have h1 := b1.most
      have h2 := Nat.mul_le_mul h1 G.kn.2.1
      simp only [List.length_map]
      omega
    · simp [zAut]
  · simp [zAut]
/-- What Is answers. -/
noncomputable def isV (A : Aut) : Bool := decide (chkA A = 0) && (decide ((mnA A).nx = A.nx) && decide ((mnA A).ac = A.ac))

set_option maxHeartbeats 4000000 in
set_option maxRecDepth 100000 in
theorem mis_any (v : Value) (A : Aut) (w : World) (h : AR w v A) (hm : A.nx.length ≤ 9223372036854775806) (hm2 : A.ac.length ≤ 9223372036854775806) :
    Calls Try.prog 8 #[v] w fun e w' => e = .returned (.tuple #[.bool (isV A), .int .i64 (chkA A)]) ∧ Below w.heap.size w w' := by
  obtain ⟨an, cn, aa, ca, e, k1, k2⟩ := h.is
  have HAR : Hid (∀ y, Below w.heap.size w y → AR y v A) := fun y hy => h.stay hy
  have K1 : Hid (∀ y, Below w.heap.size w y → SR y an (zC A.nx)) := fun y hy => k1.stay hy
  have K2 : Hid (∀ y, Below w.heap.size w y → SR y aa (bC A.ac)) := fun y hy => k2.stay hy
  subst e
  clear h k1 k2
  go_enter Try.func8, Try.ntmps8
  go_wp2_with fail
  refine (minimal_any _ A _ (HAR.out _ (below_new _ _)) hm hm2).mono ?_
  rintro e w1 ⟨v1, vt, rfl, hao, hT, hb1⟩
  have hml := mnA_len A
  have HBI : Hid (isV A = (decide (chkA A = 0) && (decide ((mnA A).nx = A.nx) && decide ((mnA A).ac = A.ac)))) := rfl
  obtain ⟨B, hB⟩ : ∃ B, mnA A = B := ⟨_, rfl⟩
  rw [hB] at hao hml HBI
  obtain ⟨bn, dn, ba, da, rfl, o1, o2⟩ := hao
  obtain ⟨ta, tc, rfl⟩ := own_shape hT
  have HB1 : Hid (Below w.heap.size w w1) := go_on (below_new _ _) hb1
  have HR1 : Hid (RowAt w1 w.heap.size #[.int .i64 A.k, .slice an A.nx.length cn, .slice aa A.ac.length ca]) := RowAt.new hb1
  have HN : Hid (SR w1 bn (zC B.nx)) := own_sr o1
  have HA : Hid (SR w1 ba (bC B.ac)) := own_sr o2
  have csa : ∀ O o, (w1.alloc O).cell? ⟨w.heap.size, o, none⟩ = (#[.int .i64 A.k, .slice an A.nx.length cn, .slice aa A.ac.length ca] : Array Value)[o]? := fun O => (HR1.out.alloc O).cell
  rcases chkA_cases A with ⟨G, hc⟩ | ⟨G, hc⟩
  · have HC : Hid (chkA A = 0) := hc
    rw [hc]
    have E1 : Hid (∀ y, Below w1.heap.size w1 y → Calls Try.prog 18 #[.slice bn B.nx.length dn, .slice an A.nx.length cn] y fun e w' => e = .returned (.bool (decide (B.nx = A.nx))) ∧ Below y.heap.size y w') := fun y hy => equalI_any bn an dn cn B.nx A.nx y (HN.out.stay hy) (K1.out y (go_on HB1.out hy)) (by omega) hm
    have E2 : Hid (∀ y, Below w1.heap.size w1 y → Calls Try.prog 19 #[.slice ba B.ac.length da, .slice aa A.ac.length ca] y fun e w' => e = .returned (.bool (decide (B.ac = A.ac))) ∧ Below y.heap.size y w') := fun y hy => equalB_any ba aa da ca B.ac A.ac y (HA.out.stay hy) (K2.out y (go_on HB1.out hy)) (by omega) hm2
    have HBX : Hid (∀ y, Below (w1.alloc (.cells #[.int .i64 B.k, .slice bn B.nx.length dn, .slice ba B.ac.length da] 25)).heap.size (w1.alloc (.cells #[.int .i64 B.k, .slice bn B.nx.length dn, .slice ba B.ac.length da] 25)) y → (∀ o, y.cell? ⟨w1.heap.size, o, none⟩ = (#[.int .i64 B.k, .slice bn B.nx.length dn, .slice ba B.ac.length da] : Array Value)[o]?) ∧ ∀ o, y.cell? ⟨w.heap.size, o, none⟩ = (#[.int .i64 A.k, .slice an A.nx.length cn, .slice aa A.ac.length ca] : Array Value)[o]?) := fun y hy => ⟨(RowAt.new hy).cell, (HR1.out.stay (go_on (below_new _ _) hy)).cell⟩
    obtain ⟨p, hp⟩ : ∃ p, decide (B.nx = A.nx) = p := ⟨_, rfl⟩
    obtain ⟨q, hq⟩ : ∃ q, decide (B.ac = A.ac) = q := ⟨_, rfl⟩
    rw [hp] at E1
    rw [hq] at E2
    have HV : Hid (isV A = (p && q)) := by show _ = _; rw [HBI.out, hp, hq, decide_eq_true HC.out]; rfl
    clear hp hq hc G o1 o2 hT hb1 hB
    cases p with
    | true =>
      go_wp2_with (first
        | (go_at_call 18; refine (E1.out _ (below_new _ _)).mono ?_; rintro e y1 ⟨rfl, hy1⟩; have HY1 : Hid (Below w1.heap.size w1 y1) := go_on (below_new _ _) hy1; have cc := HBX.out y1 hy1; have c1 := cc.1; have c2 := cc.2; clear hy1 cc)
        | (go_at_call 19; refine (E2.out _ HY1.out).mono ?_; rintro e y2 ⟨rfl, hy2⟩; have HY2 : Hid (Below w.heap.size w y2) := go_on (go_on HB1.out HY1.out) hy2; clear hy2 c1 c2))
      go_ret2
      exact ⟨by rw [HV.out, HC.out]; rfl, HY2.out⟩
    | false =>
      go_wp2_with (first
        | (go_at_call 18; refine (E1.out _ (below_new _ _)).mono ?_; rintro e y1 ⟨rfl, hy1⟩; have HY1 : Hid (Below w.heap.size w y1) := go_on (go_on HB1.out (below_new _ _)) hy1; have cc := HBX.out y1 hy1; have c1 := cc.1; have c2 := cc.2; clear hy1 cc))
      go_ret2
      exact ⟨by rw [HV.out, HC.out]; rfl, HY1.out⟩
  · have HC : Hid (chkA A = 80) := hc
    have HV : Hid (isV A = false) := by show _ = _; rw [HBI.out, decide_eq_false (by rw [hc]; decide)]; rfl
    rw [hc]
    clear hc o1 o2 hT hb1 hB
    go_wp2_with fail
    go_ret2
    exact ⟨by rw [HV.out, HC.out]; rfl, go_on HB1.out (below_new _ _)⟩
end Go.Proofs.Ythjenemmhlljfab
