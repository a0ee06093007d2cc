/- The document's Go; checkWord; Run and Accepts, program and document. -/
import Derived.Test.YtneiegbodnalbaaJe
namespace Go.Proofs.Ytneiegbodnalbaa
open Go Go.RowKit Go.Lib
set_option linter.unusedVariables false

set_option maxHeartbeats 2000000 in
set_option maxRecDepth 100000 in
theorem rgo_any (v : Value) (A : Aut) (w : World) (h : AR w v A) (G : Good A) (s : Nat) (hs : s < A.ac.length) (b : ByteArray) (hb : Lts A.k b) (hz : b.size ≤ 9223372036854775807) :
    Calls Try.prog 16 #[v, .int .i64 s, .string b] w fun e w' => e = .returned (.int .i64 (goN A s (lets b))) ∧ Below w.heap.size w w' := by
  obtain ⟨an, cn, aa, ca, e, h1, h2⟩ := h.is
  have HN : Hid (SR w an (zC A.nx)) := h1
  have HG : Hid (Good A) := G
  have HL : Hid (Lts A.k b) := hb
  have HR : Hid (∀ i, goN A s ((lets b).take i) < A.ac.length) := run_lt G hs hb
  have HT : Hid (∀ i (hi : i < b.size), goN A s ((lets b).take (i + 1)) = dN A (goN A s ((lets b).take i)) (b[i].toNat - 97)) := goN_take A s b
  clear h h1 h2 G hb hs
  subst e
  go_enter Try.func16, Try.ntmps16
  go_wp2_with fail
  have R1 : RowAt (w.alloc (.cells #[.int .i64 A.k, .slice an A.nx.length cn, .slice aa A.ac.length ca] 26)) w.heap.size #[.int .i64 A.k, .slice an A.nx.length cn, .slice aa A.ac.length ca] := RowAt.last _ _ _
  generalize hW : w.alloc (.cells #[.int .i64 A.k, .slice an A.nx.length cn, .slice aa A.ac.length ca] 26) = W at R1 ⊢
  have HW : Hid (Below w.heap.size w W) := by show Below w.heap.size w W; rw [← hW]; exact below_new _ _
  clear hW
  have HR1 : Hid (RowAt W w.heap.size #[.int .i64 A.k, .slice an A.nx.length cn, .slice aa A.ac.length ca]) := R1
  clear R1
  go_loopw [1, 7] (fun vs vi wr => ∃ i : Nat, vi = .int .i64 i ∧ i ≤ b.size ∧ vs = .int .i64 (goN A s ((lets b).take i)) ∧ Below W.heap.size W wr) (fun _ vi _ => b.size - (intOf vi).toNat)
  case atStart => exact ⟨0, rfl, Nat.zero_le _, rfl, Below.refl _ _⟩
  case round =>
    obtain ⟨i, rfl, hin, rfl, hb⟩ := hrel
    have HB : Hid (Below W.heap.size W wr) := hb
    clear hb
    obtain ⟨t, ht⟩ : ∃ t, goN A s ((lets b).take i) = t := ⟨_, rfl⟩
    have HTi : Hid (goN A s ((lets b).take i) = t) := ht
    rw [ht]
    clear ht
    by_cases hlt : i < b.size
    · have hiI : (i : Int) < b.size := by omega
      obtain ⟨l1, l2⟩ := HL.out i hlt
      obtain ⟨c, hc⟩ : ∃ c, b[i].toNat - 97 = c := ⟨_, rfl⟩
      have hk1 := HG.out.k1
      have hk8 := HG.out.k8
      have hn2 := HG.out.n2
      have hcv : IntKind.u8.wrap ((b[i].toNat : Int) - 97) = (c : Int) := by rw [IntKind.wrap_u8]; omega
      have hcv2 : IntKind.i64.wrap (c : Int) = (c : Int) := by rw [IntKind.wrap_i64]; omega
      have hck : (c : Int) < A.k := by omega
      have HC : Hid (b[i].toNat - 97 = c) := hc
      have htl : t < A.ac.length := by have := HR.out i; rw [HTi.out] at this; exact this
      obtain ⟨g1, g2, g3⟩ := HG.out.at htl hck
      obtain ⟨g, o, rfl, hg, hcell⟩ := HN.out.int g1
      rw [g2] at hcell
      obtain ⟨D, hD⟩ : ∃ D, dN A t c = D := ⟨_, rfl⟩
      rw [hD] at hcell
      have HD : Hid (dN A t c = D) := hD
      have hp : (t : Int) * A.k = ((t * A.k.toNat : Nat) : Int) := by rw [Int.natCast_mul]; congr 1; omega
      have hq : t * A.k.toNat ≤ 4095 * 8 := Nat.mul_le_mul (by omega) (by omega)
      obtain ⟨p, hpp⟩ : ∃ p, t * A.k.toNat = p := ⟨_, rfl⟩
      rw [hpp] at hp hq hcell g1
      have hw1 : IntKind.i64.wrap ((t : Int) * A.k) = (p : Int) := by rw [hp, IntKind.wrap_i64]; omega
      obtain ⟨q, hqq⟩ : ∃ q, p + c = q := ⟨_, rfl⟩
      have hw2 : IntKind.i64.wrap ((p : Int) + c) = (q : Int) := by rw [IntKind.wrap_i64]; omega
      have hgl : (q : Int) < A.nx.length := by omega
      rw [hqq] at hcell
      have hcell' : wr.cell? ⟨g, o + q, none⟩ = some (.int .i64 (D : Int)) := by rw [below_cellJ HB.out (Nat.lt_of_lt_of_le hg HW.out.size), below_cellJ HW.out hg]; exact hcell
      have R2 := HR1.out.stay HB.out
      have S0 : SB wr w.heap.size #[.int .i64 A.k, .slice (some ⟨g, o, none⟩) A.nx.length cn, .slice aa A.ac.length ca] wr.drew ∧ wr.drew.cell? ⟨g, o + q, none⟩ = some (.int .i64 (D : Int)) := ⟨sb_of R2 (Below.refl _ _).drew, hcell'⟩
      have HNX : Hid (D = goN A s ((lets b).take (i + 1))) := by
        show _ = _
        rw [HT.out i hlt, HTi.out, HC.out, HD.out]
      have HBD : Hid (Below W.heap.size W wr.drew) := HB.out.drew
      clear hc l1 l2 hk8 hk1 hn2 hp hq hpp hqq g1 g2 g3 hcell hcell' hD htl
      go_wp2_with fail
      go_region_held3 (fun w' => (SB wr w.heap.size #[.int .i64 A.k, .slice (some ⟨g, o, none⟩) A.nx.length cn, .slice aa A.ac.length ca] w') ∧ w'.cell? ⟨g, o + q, none⟩ = some (.int .i64 (D : Int))) (first | exact S0 | assumption) (fail)
      all_goals (
        clear S0
        go_wp2_with fail
        go_roundw
        case rel => exact ⟨i + 1, by go_num, by omega, by rw [HNX.out], HBD.out⟩
        case measure => simp [intOf]; omega)
    · have hiI : ¬ (i : Int) < b.size := by omega
      have HE : Hid (t = goN A s (lets b)) := by
        show t = _
        rw [← HTi.out, List.take_of_length_le (by rw [lets_len]; omega)]
      go_wp2_with fail
      go_ret
      exact ⟨ret_intJ (by rw [HE.out]), HW.out.trans (HB.out.mono HW.out.size)⟩

/-- What checkWord answers. -/
noncomputable def cwE (A : Aut) (b : ByteArray) : Int := if chkA A = 0 then chk A.k b else 80
/-- What Run answers. -/
noncomputable def runE (A : Aut) (s : Int) (b : ByteArray) : Int := if chkA A = 0 then if s < 0 ∨ A.ac.length ≤ s then 11 else chk A.k b else 80
noncomputable def runV (A : Aut) (s : Int) (b : ByteArray) : Int := if runE A s b = 0 then (goN A s.toNat (lets b) : Int) else 0
noncomputable def accV (A : Aut) (b : ByteArray) : Bool := if cwE A b = 0 then aN A (goN A 0 (lets b)) else false
open Classical in
theorem chkA_cases (A : Aut) : (Good A ∧ chkA A = 0) ∨ (¬ Good A ∧ chkA A = 80) := by
  by_cases h : Good A
  · exact .inl ⟨h, chkA_ok h⟩
  · exact .inr ⟨h, chkA_no h⟩
theorem chkA_good {A : Aut} (h : chkA A = 0) : Good A := by
  rcases chkA_cases A with h2 | h2
  · exact h2.1
  · rw [h2.2] at h; cases h
theorem ret_two {a b c d : Value} (h1 : a = c) (h2 : b = d) : Ending.returned (.tuple #[a, b]) = .returned (.tuple #[c, d]) := by rw [h1, h2]

end Go.Proofs.Ytneiegbodnalbaa
