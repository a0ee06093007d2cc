/- What tree.Parts answers for a tree, in one sentence for all kinds of roots. -/
import Derived.Test.YtchaggigabccaaaDoorTy
namespace Go.Proofs.YtchaggigabccaaaDoor
open Go Go.RowKit

/-- The heaviest of the parts' ways. -/
def ways (wt : Nd → Nat) (ps : List (List Nd)) : Nat := ps.foldl (fun m p => max m ((heavyN wt p).getD 0 0)) 0
theorem ways_next {wt : Nd → Nat} {ps : List (List Nd)} {i : Nat} (h : i < ps.length) : ways wt (ps.take (i + 1)) = max (ways wt (ps.take i)) ((heavyN wt (ps.getD i [])).getD 0 0) := by
  rw [take_next h]; simp [ways]
/-- The parts of a tree. -/
structure PartsOf (ts : List Nd) (n : Nd) (ps : List (List Nd)) : Prop where
  len : ps.length = arity n.1
  join : ps.flatten ++ [n] = ts
  tree : ∀ i, i < ps.length → freeN (ps.getD i []) = some 1
  way : ∀ wt, (heavyN wt ts).getD 0 0 = ways wt ps + wt n
theorem one_reads {w : World} {G B : Nat} {v1 : Value} {p : List Nd} (h : PB w G #[v1]) (h1 : w.ownsRow B 36 2 v1 p.length (ndC p)) : PReads w (.slice (some ⟨G, 0, none⟩) 1 1) [p] := by
  refine ⟨some ⟨G, 0, none⟩, 1, rfl, fun i hi => ?_⟩
  have hi : i < 1 := hi
  obtain rfl : i = 0 := by omega
  exact ⟨G, 0, v1, rfl, h.lt, by rw [h.get]; rfl, own_nreads h1⟩
theorem two_reads {w : World} {G B C : Nat} {v1 v2 : Value} {p q : List Nd} (h : PB w G #[v1, v2]) (h1 : w.ownsRow B 36 2 v1 p.length (ndC p)) (h2 : w.ownsRow C 36 2 v2 q.length (ndC q)) : PReads w (.slice (some ⟨G, 0, none⟩) 2 2) [p, q] := by
  refine ⟨some ⟨G, 0, none⟩, 2, rfl, fun i hi => ?_⟩
  have hi : i < 2 := hi
  have hc : i = 0 ∨ i = 1 := by omega
  rcases hc with rfl | rfl
  · exact ⟨G, 0, v1, rfl, h.lt, by rw [h.get]; rfl, own_nreads h1⟩
  · exact ⟨G, 0, v2, rfl, h.lt, by rw [h.get]; rfl, own_nreads h2⟩
theorem parts_good (v : Value) (ts : List Nd) (w : World) (hv : NReads w v ts) (hP : PTab w) (hok : wrong ts = 0) (hcap : ∀ a n c, v = .slice a n c → n ≤ c) :
    Calls Tryd.prog 19 #[v] w fun e w' => ∃ n G ps, e = .returned (.tuple #[ndV n, .slice (some ⟨G, 0, none⟩) ps.length ps.length, .int .i64 0]) ∧ good n = true ∧ PartsOf ts n ps ∧ PReads w' (.slice (some ⟨G, 0, none⟩) ps.length ps.length) ps ∧ Below w.heap.size w w' := by
  obtain ⟨hm, hf⟩ := wrong_len hok
  obtain ⟨⟨k, s⟩, hn⟩ : ∃ n, ts.getD (ts.length - 1) (0, 0) = n := ⟨_, rfl⟩
  obtain ⟨h0, hg, hsl⟩ := tree_end hf
  rw [hn] at hg hsl
  have hal := arity_le k
  obtain ⟨hft, hte⟩ := tree_last hf hn
  have hc : arity k = 0 ∨ arity k = 1 ∨ arity k = 2 := by omega
  rcases hc with hr | hr | hr
  · refine (parts_zero v ts w hv hm hP hok hf k s hn hr hcap).mono ?_
    rintro e w' ⟨G, rfl, hb⟩
    refine ⟨(k, s), G, [], rfl, hg, ⟨hr.symm, ?_, fun i hi => absurd hi (by simp), fun wt => ?_⟩, ⟨_, _, rfl, fun i hi => absurd hi (by simp)⟩, hb⟩
    · rw [hr] at hft
      have hl := (heavy_over (fun _ => 0) _ _ hft)
      have hT := trees_any _ _ hft
      have hsz : stkN (ts.take (ts.length - 1)) = [] := by
        simp only at hsl
        rw [hr] at hsl
        exact List.eq_nil_of_length_eq_zero hsl
      rw [hsz] at hT
      have hT : ts.take (ts.length - 1) = [] := hT
      rw [hT] at hte
      exact hte.symm
    · rw [way_zero hf hn hr]; simp [ways]
  · refine (parts_one v ts w hv hm hP hok hf k s hn hr hcap).mono ?_
    rintro e w' ⟨G, v1, rfl, hG, hp, ho, hb⟩
    rw [hr] at hft
    refine ⟨(k, s), G, [ts.take (ts.length - 1)], rfl, hg, ⟨hr.symm, ?_, fun i hi => ?_, fun wt => ?_⟩, one_reads hp ho, hb⟩
    · simpa using hte.symm
    · have hi : i < 1 := hi
      obtain rfl : i = 0 := by omega
      exact hft
    · rw [way_one hf hn hr]; simp [ways]
  · simp only at hsl
    rw [hr] at hsl
    obtain ⟨a, b, hstk⟩ : ∃ a b, stkN (ts.take (ts.length - 1)) = [a, b] := by
      match hh : stkN (ts.take (ts.length - 1)), hsl with
      | [a, b], _ => exact ⟨a, b, rfl⟩
    refine (parts_two v ts w hv hm hP hok hf k s hn hr a b hstk hcap).mono ?_
    rintro e w' ⟨G, v1, v2, B, rfl, hG, hB, hp, ho1, ho2, hlt, hb⟩
    obtain ⟨p, q, he, hfp, hfq, e1, e2⟩ := tree_two hf hn hstk
    rw [e1] at ho1
    rw [e2] at ho2
    refine ⟨(k, s), G, [p, q], rfl, hg, ⟨hr.symm, ?_, fun i hi => ?_, fun wt => ?_⟩, two_reads hp ho1 ho2, hb⟩
    · rw [he]; simp
    · have hi : i < 2 := hi
      have hc : i = 0 ∨ i = 1 := by omega
      rcases hc with rfl | rfl
      · exact hfp
      · exact hfq
    · rw [he, way_two hfp hfq hr]; simp [ways]
theorem heavy_le {wt : Nd → Nat} (hw : ∀ n, wt n ≤ 1) (ts : List Nd) : ∀ x ∈ heavyN wt ts, x ≤ ts.length := by
  refine snoc_ind (P := fun ts => ∀ x ∈ heavyN wt ts, x ≤ ts.length) (fun x hx => by simp [heavyN, heavy] at hx) (fun ts n ih => ?_) ts
  rw [heavyN_snoc, List.length_append]
  exact hpush_le (hw n) ih
theorem len_part {ps : List (List Nd)} {i : Nat} (h : i < ps.length) : (ps.getD i []).length ≤ ps.flatten.length := by
  have e : ps.flatten.length = tot (ps.take (i + 1)) + (ps.drop (i + 1)).flatten.length := by
    unfold tot
    conv => lhs; rw [← List.take_append_drop (i + 1) ps, List.flatten_append]
    simp
  have := tot_next h
  omega
theorem ferr_all : ∀ ps : List (List Nd), (∀ i, i < ps.length → wrong (ps.getD i []) = 0) → ferr ps = 0
  | [], _ => rfl
  | p :: ps, h => by
    have h0 : wrong p = 0 := h 0 (by simp)
    simp only [ferr, if_pos h0]
    exact ferr_all ps fun i hi => h (i + 1) (by simpa using hi)
theorem parts_each {ts : List Nd} {n : Nd} {ps : List (List Nd)} (h : PartsOf ts n ps) (h4 : ts.length ≤ 4000) (i : Nat) (hi : i < ps.length) :
    freeN (ps.getD i []) = some 1 ∧ (ps.getD i []).length ≤ 4000 ∧ wrong (ps.getD i []) = 0 ∧ (heavyN (fun _ => 1) (ps.getD i [])).getD 0 0 ≤ 4000 := by
  have h1 := h.tree i hi
  have hj := congrArg List.length h.join
  have hp := len_part hi
  simp only [List.length_append, List.length_singleton] at hj
  have h2 : (ps.getD i []).length ≤ 4000 := by omega
  refine ⟨h1, h2, by rw [wrong, if_neg (by omega), if_pos h1], ?_⟩
  have hh := heavy_le (wt := fun _ => 1) (fun _ => Nat.le_refl _) (ps.getD i [])
  rw [heavy_one h1] at hh
  have := hh _ (List.mem_singleton.2 rfl)
  omega
theorem parts_join {ts : List Nd} {n : Nd} {ps : List (List Nd)} (h : PartsOf ts n ps) (h4 : ts.length ≤ 4000) (hg : good n = true) : joinE n ps = 0 := by
  have hj := congrArg List.length h.join
  simp only [List.length_append, List.length_singleton] at hj
  unfold joinE
  rw [hg, if_neg (by simp), if_neg (by rw [h.len]; simp), ferr_all ps (fun i hi => (parts_each h h4 i hi).2.2.1), if_neg (by simp), if_neg (by unfold tot; omega)]
theorem parts_small {ts : List Nd} {n : Nd} {ps : List (List Nd)} (h : PartsOf ts n ps) (h4 : ts.length ≤ 4000) (i : Nat) : (ps.getD i []).length ≤ 9223372036854775806 := by
  by_cases hi : i < ps.length
  · have := (parts_each h h4 i hi).2.1; omega
  · rw [List.getD_eq_getElem?_getD, List.getElem?_eq_none (by omega)]; simp
end Go.Proofs.YtchaggigabccaaaDoor
