/- Contract of auto.Least. -/
import Derived.Test.YtbfoamidnekoaabJo
namespace Go.Proofs.Ytbfoamidnekoaab
open Go Go.RowKit Go.Lib
set_option linter.unusedVariables false

/-- What Least answers. -/
noncomputable def lsN (A : Aut) : List Nat := (reA A).nx.map Int.toNat
noncomputable def lsF (A : Aut) : Bool := decide (true ∈ (reA A).ac)
noncomputable def lsW (A : Aut) : ByteArray := if true ∈ (reA A).ac then ⟨(lB (lw A.k.toNat (lsN A) ((reA A).ac.idxOf true))).toArray⟩ else ByteArray.empty
/-- What is sure of what is met. -/
structure Rch (A : Aut) (s : Nat) (acc : Nat → Bool) (m n : List Nat) : Prop where
  bfs : bfs (dN A) A.k.toNat s = some (m, n)
  is : rch A s acc = ⟨A.k, n.map fun (x : Nat) => (x : Int), m.map acc⟩
  bi : BI (dN A) A.k.toNat s m n
  len : n.length = m.length * A.k.toNat
  lt : ∀ x ∈ m, x < A.ac.length
  nlt : ∀ x ∈ n, x < m.length
  m1 : 1 ≤ m.length
theorem rch_of {A : Aut} (G : Good A) {s : Nat} (hs : s < A.ac.length) (acc : Nat → Bool) : ∃ m n, Rch A s acc m n := by
  obtain ⟨m, n, hb, hm⟩ := bfs_some G hs
  obtain ⟨hbi, hl⟩ := bfs_sure ⟨G.kn.1, G.kn.2.1⟩ hb
  refine ⟨m, n, hb, by unfold rch; rw [hb], hbi, hl, hm, fun x hx => ?_, ?_⟩
  · obtain ⟨p, hp⟩ := List.mem_iff_getElem?.1 hx
    obtain ⟨t, _, ht⟩ := hbi.step p x hp
    exact (List.getElem?_eq_some_iff.1 ht).1
  · have := (List.getElem?_eq_some_iff.1 hbi.first).1
    omega
theorem Rch.nbound {A : Aut} {s : Nat} {acc : Nat → Bool} {m n : List Nat} (h : Rch A s acc m n) (G : Good A) : n.length ≤ 32768 ∧ 0 < n.length ∧ m.length ≤ 4096 := by
  have h1 := h.len
  have h2 := h.bi.most
  have h3 := Nat.mul_le_mul h2 G.kn.2.1
  have h4 := Nat.mul_le_mul h.m1 G.kn.1
  omega
theorem toNat_cast (n : List Nat) : (n.map fun (x : Nat) => (x : Int)).map Int.toNat = n := by
  rw [List.map_map]
  have : (Int.toNat ∘ fun (x : Nat) => (x : Int)) = id := by funext x; simp
  rw [this, List.map_id]
theorem ret_three {a b c x y z : Value} (h1 : a = x) (h2 : b = y) (h3 : c = z) : Ending.returned (.tuple #[a, b, c]) = .returned (.tuple #[x, y, z]) := by rw [h1, h2, h3]

set_option maxHeartbeats 2000000 in
set_option maxRecDepth 100000 in
theorem least_any (v : Value) (A : Aut) (w : World) (h : AR w v A) (hm : A.nx.length ≤ 9223372036854775806) (hm2 : A.ac.length ≤ 9223372036854775806) :
    Calls Try.prog 31 #[v] w fun e w' => e = .returned (.tuple #[.string (lsW A), .bool (lsF A), .int .i64 (chkA A)]) ∧ Below w.heap.size w w' := by
  obtain ⟨an, cn, aa, ca, e, h1, h2⟩ := h.is
  have HAR : Hid (∀ w', Below w.heap.size w w' → AR w' v A) := fun w' hb => h.stay hb
  clear h h1 h2
  subst e
  go_enter Try.func31, Try.ntmps31
  go_wp2_with fail
  refine (reach_any _ A _ (HAR.out _ (below_new _ _)) hm hm2).mono ?_
  rintro e w1 ⟨v', rfl, hao, hb1⟩
  obtain ⟨rn, rcn, ra, rca, rfl, o1, o2⟩ := hao
  have HB1 : Hid (Below w.heap.size w w1) := go_on (below_new _ _) hb1
  clear hb1
  rcases chkA_cases A with ⟨hG, hc⟩ | ⟨hG, hc⟩
  · obtain ⟨m, n, R⟩ := rch_of hG (s := 0) (by have := hG.n1; omega) (aN A)
    have hre : reA A = ⟨A.k, n.map fun (x : Nat) => (x : Int), m.map (aN A)⟩ := by unfold reA; rw [if_pos hc, R.is]
    rw [hc]
    obtain ⟨B, hB⟩ : ∃ B, reA A = B := ⟨_, rfl⟩
    rw [hB] at o1 o2 hre ⊢
    have HAO : Hid (AR w1 (.agg #[.int .i64 B.k, .slice rn B.nx.length rcn, .slice ra B.ac.length rca]) B) := ⟨rn, rcn, ra, rca, rfl, own_sr o1, own_sr o2⟩
    have HSB : Hid (SR w1 ra (bC B.ac)) := own_sr o2
    have HBE : Hid (reA A = B) := hB
    have HRE : Hid (B = ⟨A.k, n.map fun (x : Nat) => (x : Int), m.map (aN A)⟩) := hre
    have HR : Hid (Rch A 0 (aN A) m n) := R
    have HG : Hid (Good A) := hG
    have HC : Hid (chkA A = 0) := hc
    have hbl : B.ac.length ≤ 4096 := by rw [hre]; simp; exact (R.nbound hG).2.2
    have R1 : RowAt (w1.alloc (.cells #[.int .i64 B.k, .slice rn B.nx.length rcn, .slice ra B.ac.length rca] 25)) w1.heap.size #[.int .i64 B.k, .slice rn B.nx.length rcn, .slice ra B.ac.length rca] := RowAt.last _ _ _
    have HR1 : Hid _ := R1
    clear o1 o2 hB hre hG hc R R1
    go_wp2_with fail
    refine (index_any _ _ B.ac _ (HSB.out.stay (below_new _ _)) (by omega)).mono ?_
    rintro e w2 ⟨rfl, rfl⟩
    by_cases ht : true ∈ B.ac
    · have hix : ixB B.ac = (B.ac.idxOf true : Nat) := by unfold ixB; rw [if_pos ht]
      obtain ⟨j, hj⟩ : ∃ j, B.ac.idxOf true = j := ⟨_, rfl⟩
      have hjl : j < B.ac.length := by rw [← hj]; exact List.idxOf_lt_length_of_mem ht
      rw [hj] at hix
      rw [hix]
      have HW : Hid (lsW A = ⟨(lB (lw A.k.toNat n j)).toArray⟩) := by
        show _ = _
        unfold lsW lsN
        rw [HBE.out, if_pos ht, hj]
        have : B.nx.map Int.toNat = n := by rw [HRE.out]; exact toNat_cast n
        rw [this]
      have HF : Hid (lsF A = true) := by show _ = _; unfold lsF; rw [HBE.out]; exact decide_eq_true ht
      have hac : B.ac.length = m.length := by rw [HRE.out]; simp
      have HLT : Hid (∀ w', Below w1.heap.size w1 w' → Calls Try.prog 45 #[.agg #[.int .i64 B.k, .slice rn B.nx.length rcn, .slice ra B.ac.length rca], .int .i64 (j : Int)] w' fun e w2 => e = .returned (.string ⟨(lB (lw A.k.toNat n j)).toArray⟩) ∧ Below w'.heap.size w' w2) := fun w' hb =>
        leastTo_any _ B n A.k.toNat w' (HAO.out.stay hb) (by rw [HRE.out]; exact HG.out.kn.2.2.symm) ⟨HG.out.kn.1, HG.out.kn.2.1⟩ (by rw [HRE.out]) (fun x hx => by rw [hac]; exact HR.out.nlt x hx) (HR.out.nbound HG.out).1 (HR.out.nbound HG.out).2.1 (by rw [hac]; exact (HR.out.nbound HG.out).2.2) (by rw [hac]; exact HR.out.bi.fst) j hjl
      clear hix hj ht hac
      go_wp2_with fail
      refine (HLT.out _ (below_new _ _)).mono ?_
      rintro e w3 ⟨rfl, hb3⟩
      have HB3 : Hid (Below w.heap.size w w3) := go_on (go_on HB1.out (below_new _ _)) hb3
      clear hb3 HLT
      go_wp2_with fail
      go_ret3
      exact ⟨ret_three (by rw [HW.out]; first | done | rfl) (by rw [HF.out]; first | done | rfl) (by rw [HC.out]; first | done | rfl), HB3.out⟩
    · have hix : ixB B.ac = -1 := by unfold ixB; rw [if_neg ht]
      have HW : Hid (lsW A = ByteArray.empty) := by show _ = _; unfold lsW; rw [HBE.out, if_neg ht]
      have HF : Hid (lsF A = false) := by show _ = _; unfold lsF; rw [HBE.out]; exact decide_eq_false ht
      have HB3 : Hid (∀ o, Below w.heap.size w (w1.alloc o)) := fun o => go_on HB1.out (below_new _ _)
      rw [hix]
      clear hix ht
      go_wp2_with fail
      go_ret3
      exact ⟨ret_three (by rw [HW.out]; first | done | rfl) (by rw [HF.out]; first | done | rfl) (by rw [HC.out]; first | done | rfl), HB3.out _⟩
  · have hre : reA A = zAut := by unfold reA; rw [if_neg (by rw [hc]; decide)]
    have HW : Hid (lsW A = ByteArray.empty) := by show _ = _; unfold lsW; rw [hre, if_neg (by simp [zAut])]
    have HF : Hid (lsF A = false) := by show _ = _; unfold lsF; rw [hre]; exact decide_eq_false (by simp [zAut])
    have HC : Hid (chkA A = 80) := hc
    have HB3 : Hid (∀ o, Below w.heap.size w (w1.alloc o)) := fun o => go_on HB1.out (below_new _ _)
    rw [hc]
    clear o1 o2 hre hc hG
    go_wp2_with fail
    go_ret3
    exact ⟨ret_three (by rw [HW.out]; first | done | rfl) (by rw [HF.out]; first | done | rfl) (by rw [HC.out]; first | done | rfl), HB3.out _⟩
end Go.Proofs.Ytbfoamidnekoaab
