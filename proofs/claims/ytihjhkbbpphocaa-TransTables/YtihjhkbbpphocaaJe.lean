/- Where a word leads: auto.lead and the document's Go; checkWord; Run and Accepts of both. -/
import Derived.Test.YtihjhkbbpphocaaJd
namespace Go.Proofs.Ytihjhkbbpphocaa
open Go Go.RowKit Go.Lib
set_option linter.unusedVariables false

/-- A word's letters, as numbers. -/
def lets (s : ByteArray) : List Nat := s.data.toList.map fun c => c.toNat - 97
theorem lets_len (s : ByteArray) : (lets s).length = s.size := by simp [lets]
theorem lets_at (s : ByteArray) (i : Nat) (hi : i < s.size) : (lets s)[i]? = some (s[i].toNat - 97) := by
  have h : i < s.data.toList.length := by simpa using hi
  unfold lets
  rw [List.getElem?_map, List.getElem?_eq_getElem h]
  rfl
/-- Where letters lead. -/
def goN (A : Aut) (s : Nat) (l : List Nat) : Nat := l.foldl (dN A) s
theorem goN_take (A : Aut) (s : Nat) (b : ByteArray) (i : Nat) (hi : i < b.size) : goN A s ((lets b).take (i + 1)) = dN A (goN A s ((lets b).take i)) (b[i].toNat - 97) := by
  rw [List.take_add_one, lets_at b i hi]
  simp [goN]
theorem goN_lt {A : Aut} (G : Good A) {s : Nat} (hs : s < A.ac.length) : ∀ l : List Nat, (∀ c ∈ l, (c : Int) < A.k) → goN A s l < A.ac.length := by
  intro l
  induction l generalizing s with
  | nil => intro _; exact hs
  | cons c l ih =>
    intro h
    exact ih (G.at hs (h c (by simp))).2.2 (fun x hx => h x (by simp [hx]))
/-- All letters of b are among the first k. -/
def Lts (k : Int) (b : ByteArray) : Prop := ∀ i (hi : i < b.size), 97 ≤ b[i].toNat ∧ (b[i].toNat : Int) < 97 + k
theorem chk_all {k : Int} {b : ByteArray} (h : chk k b = 0) : Lts k b := by
  intro i hi
  unfold chk at h
  split at h
  · cases h
  · split at h
    · rename_i h2
      have := List.all_eq_true.1 h2 b[i] (by exact List.getElem_mem (l := b.data.toList) (by simpa using hi))
      simp only [letterAt, decide_eq_true_eq] at this
      omega
    · cases h
theorem chk_cases {k : Int} {b : ByteArray} (h1 : 1 ≤ k) (h8 : k ≤ 8) : chk k b = 0 ∨ chk k b = 21 := by
  unfold chk
  rw [if_neg (by omega)]
  split
  · exact .inl rfl
  · exact .inr rfl
theorem Lts.lt {k : Int} {b : ByteArray} (h : Lts k b) (i : Nat) : ∀ c ∈ (lets b).take i, (c : Int) < k := by
  intro c hc
  have hc := List.mem_of_mem_take hc
  obtain ⟨j, hj, rfl⟩ := List.mem_iff_getElem.1 hc
  have hj' : j < b.size := by rw [← lets_len]; exact hj
  have h2 := h j hj'
  have e := lets_at b j hj'
  rw [List.getElem?_eq_getElem hj] at e
  simp only [Option.some.injEq] at e
  rw [e]
  omega
theorem Lts.lt_all {k : Int} {b : ByteArray} (h : Lts k b) : ∀ c ∈ lets b, (c : Int) < k := by
  have := h.lt (lets b).length
  rwa [List.take_length] at this
theorem run_lt {A : Aut} (G : Good A) {s : Nat} (hs : s < A.ac.length) {b : ByteArray} (h : Lts A.k b) (i : Nat) : goN A s ((lets b).take i) < A.ac.length := goN_lt G hs _ (h.lt i)

set_option maxHeartbeats 2000000 in
set_option maxRecDepth 100000 in
theorem lead_any (v : Value) (A : Aut) (w : World) (h : AR w v A) (G : Good A) (s : Nat) (hs : s < A.ac.length) (b : ByteArray) (hb : Lts A.k b) (hz : b.size ≤ 9223372036854775807) :
    Calls Try.prog 70 #[v, .int .i64 s, .string b] w fun e w' => e = .returned (.int .i64 (goN A s (lets b))) ∧ Below w.heap.size w w' := by
  obtain ⟨an, cn, aa, ca, e, h1, h2⟩ := h.is
  have HA : Hid (∀ w', Below w.heap.size w w' → AR w' v A) := fun w' hb => h.stay hb
  have HG : Hid (Good A) := G
  have HL : Hid (Lts A.k b) := hb
  have HR : Hid (∀ i, goN A s ((lets b).take i) < A.ac.length) := run_lt G hs hb
  have HT : Hid (∀ i (hi : i < b.size), goN A s ((lets b).take (i + 1)) = dN A (goN A s ((lets b).take i)) (b[i].toNat - 97)) := goN_take A s b
  clear h h1 h2 G hb hs
  subst e
  go_enter Try.func70, Try.ntmps70
  go_wp2_with fail
  have R1 : RowAt (w.alloc (.cells #[.int .i64 A.k, .slice an A.nx.length cn, .slice aa A.ac.length ca] 58)) w.heap.size #[.int .i64 A.k, .slice an A.nx.length cn, .slice aa A.ac.length ca] := RowAt.last _ _ _
  generalize hW : w.alloc (.cells #[.int .i64 A.k, .slice an A.nx.length cn, .slice aa A.ac.length ca] 58) = W at R1 ⊢
  have HW : Hid (Below w.heap.size w W) := by show Below w.heap.size w W; rw [← hW]; exact below_new _ _
  clear hW
  have HR1 : Hid (RowAt W w.heap.size #[.int .i64 A.k, .slice an A.nx.length cn, .slice aa A.ac.length ca]) := R1
  clear R1
  go_loopw [1, 10] (fun vs vi wr => ∃ i : Nat, vi = .int .i64 i ∧ i ≤ b.size ∧ vs = .int .i64 (goN A s ((lets b).take i)) ∧ Below W.heap.size W wr) (fun _ vi _ => b.size - (intOf vi).toNat)
  case atStart => exact ⟨0, rfl, Nat.zero_le _, rfl, Below.refl _ _⟩
  case round =>
    obtain ⟨i, rfl, hin, rfl, hb⟩ := hrel
    have HB : Hid (Below W.heap.size W wr) := hb
    clear hb
    obtain ⟨t, ht⟩ : ∃ t, goN A s ((lets b).take i) = t := ⟨_, rfl⟩
    have HTi : Hid (goN A s ((lets b).take i) = t) := ht
    rw [ht]
    clear ht
    by_cases hlt : i < b.size
    · have hiI : (i : Int) < b.size := by omega
      obtain ⟨l1, l2⟩ := HL.out i hlt
      obtain ⟨c, hc⟩ : ∃ c, b[i].toNat - 97 = c := ⟨_, rfl⟩
      have hk8 := HG.out.k8
      have hcv : IntKind.u8.wrap ((b[i].toNat : Int) - 97) = (c : Int) := by rw [IntKind.wrap_u8]; omega
      have hcv2 : IntKind.i64.wrap (c : Int) = (c : Int) := by rw [IntKind.wrap_i64]; omega
      have hck : (c : Int) < A.k := by omega
      have HC : Hid (b[i].toNat - 97 = c) := hc
      have R2 := HR1.out.stay HB.out
      have S0 : SB wr w.heap.size #[.int .i64 A.k, .slice an A.nx.length cn, .slice aa A.ac.length ca] wr.drew := sb_of R2 (Below.refl _ _).drew
      have htl : t < A.ac.length := by have := HR.out i; rw [HTi.out] at this; exact this
      have HAR : Hid (∀ w', Below wr.heap.size wr w' → AR w' (.agg #[.int .i64 A.k, .slice an A.nx.length cn, .slice aa A.ac.length ca]) A) := fun w' h' => HA.out w' (go_on (HW.out.trans (HB.out.mono HW.out.size)) h')
      clear hc l1 l2 hk8
      go_wp2_with fail
      go_region_held3 (fun w' => SB wr w.heap.size #[.int .i64 A.k, .slice an A.nx.length cn, .slice aa A.ac.length ca] w') (first | exact S0 | assumption | exact sb_step R2 (by assumption) (by assumption)) (first
        | (go_at_call 72; refine (astep_any _ A _ (HAR.out _ (And.right (by assumption))) HG.out t c htl hck).mono ?_; rintro e y2 ⟨rfl, hy2⟩))
      all_goals (
        have hS : SB wr w.heap.size #[.int .i64 A.k, .slice an A.nx.length cn, .slice aa A.ac.length ca] y2 := by first | assumption | exact sb_step R2 (by assumption) (by assumption)
        have HBy : Hid (Below W.heap.size W y2) := go_on HB.out hS.2
        have HN : Hid (dN A t c = goN A s ((lets b).take (i + 1))) := by
          show _ = _
          rw [HT.out i hlt, HTi.out, HC.out]
        clear hS S0
        go_wp2_with fail
        go_roundw
        case rel => exact ⟨i + 1, by go_num, by omega, by rw [HN.out], HBy.out⟩
        case measure => simp [intOf]; omega)
    · have hiI : ¬ (i : Int) < b.size := by omega
      have HE : Hid (t = goN A s (lets b)) := by
        show t = _
        rw [← HTi.out, List.take_of_length_le (by rw [lets_len]; omega)]
      go_wp2_with fail
      go_ret
      exact ⟨ret_intJ (by rw [HE.out]), HW.out.trans (HB.out.mono HW.out.size)⟩
end Go.Proofs.Ytihjhkbbpphocaa
