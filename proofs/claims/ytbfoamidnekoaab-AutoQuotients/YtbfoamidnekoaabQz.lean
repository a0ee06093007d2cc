/- The document's Ahead and Behind. -/
import Derived.Test.YtbfoamidnekoaabQw
import Derived.Test.YtbfoamidnekoaabQf
import Derived.Deep.RegionHeld3
namespace Go.Proofs.Ytbfoamidnekoaab
open Go Go.RowKit Go.Lib Go.Maps
set_option linter.unusedVariables false

/-- 0 for s, s for 0. -/
def trn (s i : Nat) : Nat := if i = 0 then s else if i = s then 0 else i
theorem trn_trn (s i : Nat) : trn s (trn s i) = i := by
  unfold trn
  split <;> split <;> (try split) <;> omega
theorem trn_lt {s i n : Nat} (hs : s < n) (hi : i < n) : trn s i < n := by
  unfold trn
  split
  · exact hs
  · split <;> omega
set_option maxHeartbeats 1000000 in
set_option maxRecDepth 100000 in
theorem turned8_any (i s : Nat) (w : World) : Calls Try.prog 24 #[.int .i64 i, .int .i64 s] w fun e w' => e = .returned (.int .i64 (trn s i : Nat)) ∧ w' = w := by
  by_cases h0 : i = 0
  · subst h0
    have e : trn s 0 = s := by unfold trn; rw [if_pos rfl]
    rw [e]
    go_enter Try.func24, Try.ntmps24
    go_wp2_with fail
    go_ret
    exact ⟨rfl, rfl⟩
  · have h0I : ¬ (i : Int) = 0 := by omega
    by_cases h1 : i = s
    · subst h1
      have e : trn i i = 0 := by unfold trn; rw [if_neg h0, if_pos rfl]
      rw [e]
      clear e h0
      have hd : decide ((i : Int) = 0) = false := decide_eq_false h0I
      go_enter Try.func24, Try.ntmps24
      go_wp2_with fail
      go_ret
      exact ⟨rfl, rfl⟩
    · have h1I : ¬ (i : Int) = s := by omega
      have e : trn s i = i := by unfold trn; rw [if_neg h0, if_neg h1]
      rw [e]
      clear e
      have hd : decide ((i : Int) = 0) = false := decide_eq_false h0I
      have hd1 : decide ((i : Int) = s) = false := decide_eq_false h1I
      go_enter Try.func24, Try.ntmps24
      go_wp2_with fail
      go_ret
      exact ⟨rfl, rfl⟩
/-- The states 0 and s, changed about. -/
def tA (A : Aut) (s : Nat) : Aut := ⟨A.k, (List.range (A.ac.length * A.k.toNat)).map fun p => ((trn s (dN A (trn s (p / A.k.toNat)) (p % A.k.toNat)) : Nat) : Int), (List.range A.ac.length).map fun i => aN A (trn s i)⟩
theorem tA_good {A : Aut} (G : Good A) {s : Nat} (hs : s < A.ac.length) : Good (tA A s) := by
  have K := G.kn
  have hx : ∀ p, p < A.ac.length * A.k.toNat → trn s (dN A (trn s (p / A.k.toNat)) (p % A.k.toNat)) < A.ac.length := by
    intro p hp
    have h1 : p / A.k.toNat < A.ac.length := by rw [Nat.div_lt_iff_lt_mul (by omega)]; exact hp
    have h2 : p % A.k.toNat < A.k.toNat := Nat.mod_lt _ (by omega)
    exact trn_lt hs (G.at (trn_lt hs h1) (by omega)).2.2
  refine ⟨G.k1, G.k8, by simpa [tA] using G.n1, by simpa [tA] using G.n2, ?_, ?_, ?_⟩
  · show (((List.range (A.ac.length * A.k.toNat)).map _).length : Int) = ((List.range A.ac.length).map _).length * A.k
    simp only [List.length_map, List.length_range]
    push_cast
    rw [K.2.2]
  · intro i hi
    have hi' : i < A.ac.length * A.k.toNat := by simpa [tA] using hi
    show 0 ≤ ((List.range (A.ac.length * A.k.toNat)).map _).getD i 0
    rw [List.getD_eq_getElem?_getD, List.getElem?_map, List.getElem?_range hi']
    simp
  · intro i hi
    have hi' : i < A.ac.length * A.k.toNat := by simpa [tA] using hi
    show ((List.range (A.ac.length * A.k.toNat)).map _).getD i 0 < (((List.range A.ac.length).map _).length : Int)
    rw [List.getD_eq_getElem?_getD, List.getElem?_map, List.getElem?_range hi']
    have := hx i hi'
    simp only [List.length_map, List.length_range, Option.map_some, Option.getD_some]
    omega
theorem tA_d {A : Aut} (G : Good A) {s i c : Nat} (hi : i < A.ac.length) (hc : c < A.k.toNat) : dN (tA A s) i c = trn s (dN A (trn s i) c) := by
  have hp : i * A.k.toNat + c < A.ac.length * A.k.toNat := by
    have := Nat.mul_le_mul_right A.k.toNat (show i + 1 ≤ A.ac.length from hi)
    rw [Nat.add_mul] at this
    omega
  have h1 : (i * A.k.toNat + c) / A.k.toNat = i := by rw [Nat.mul_comm, Nat.mul_add_div (by omega), Nat.div_eq_of_lt hc]; rfl
  have h2 : (i * A.k.toNat + c) % A.k.toNat = c := by rw [Nat.mul_comm, Nat.mul_add_mod, Nat.mod_eq_of_lt hc]
  show (((List.range (A.ac.length * A.k.toNat)).map (fun p => ((trn s (dN A (trn s (p / A.k.toNat)) (p % A.k.toNat)) : Nat) : Int))).getD (i * A.k.toNat + c) 0).toNat = _
  rw [List.getD_eq_getElem?_getD, List.getElem?_map, List.getElem?_range hp]
  simp only [Option.map_some, Option.getD_some, h1, h2, Int.toNat_natCast]
theorem tA_a {A : Aut} {s i : Nat} (hi : i < A.ac.length) : aN (tA A s) i = aN A (trn s i) := by
  show ((List.range A.ac.length).map _).getD i false = _
  rw [List.getD_eq_getElem?_getD, List.getElem?_map, List.getElem?_range hi]
  rfl
theorem tA_re {A : Aut} (G : Good A) {s : Nat} (hs : s < A.ac.length) : reA (tA A s) = rch A s (aN A) := by
  have K := G.kn
  have hl : (tA A s).ac.length = A.ac.length := by simp [tA]
  unfold reA
  rw [if_pos (chkA_ok (tA_good G hs))]
  have hm := bfs_map (d := dN A) (e := dN (tA A s)) K.1 (trn s) (fun i => i < A.ac.length)
    (fun t c ht hc => by rw [tA_d G ht hc]; exact trn_lt hs (G.at (trn_lt hs ht) (by omega)).2.2)
    (fun a b _ _ e => by have := congrArg (trn s) e; rwa [trn_trn, trn_trn] at this)
    (fun t c ht hc => by rw [tA_d G ht hc, trn_trn]) (x := s) (y := 0) (by have := G.n1; omega) (by unfold trn; rw [if_pos rfl])
  unfold rch
  rw [hm, show (tA A s).k = A.k from rfl]
  cases hr : bfs (dN (tA A s)) A.k.toNat 0 with
  | none => rfl
  | some r =>
    obtain ⟨M, N⟩ := r
    have hall := bgo_all (e := dN (tA A s)) K.1 (fun i => i < A.ac.length) (fun t c ht hc => by rw [tA_d G ht hc]; exact trn_lt hs (G.at (trn_lt hs ht) (by omega)).2.2) 32768 [0] [] M N (fun t q => by simp at q; rw [q]; have := G.n1; omega) hr
    simp only [Option.map_some]
    rw [List.map_map]
    congr 1
    exact List.map_congr_left fun i hi => tA_a (hall i hi)
/-- Other states are accepted. -/
theorem re_acc {A : Aut} (G : Good A) (f : Nat → Bool) : reA ⟨A.k, A.nx, (List.range A.ac.length).map f⟩ = rch A 0 f ∧ Good ⟨A.k, A.nx, (List.range A.ac.length).map f⟩ := by
  have GB : Good ⟨A.k, A.nx, (List.range A.ac.length).map f⟩ := by
    refine ⟨G.k1, G.k8, by simpa using G.n1, by simpa using G.n2, ?_, G.lo, ?_⟩
    · simpa using G.len
    · simpa using G.hi
  refine ⟨?_, GB⟩
  unfold reA
  rw [if_pos (chkA_ok GB)]
  unfold rch
  obtain ⟨M, N, h, hall⟩ := bfs_some G (show 0 < A.ac.length from G.n1)
  rw [show dN ⟨A.k, A.nx, (List.range A.ac.length).map f⟩ = dN A from rfl, h]
  simp only
  congr 1
  refine List.map_congr_left fun i hi => ?_
  show ((List.range A.ac.length).map f).getD i false = f i
  rw [List.getD_eq_getElem?_getD, List.getElem?_map, List.getElem?_range (hall i hi)]
  rfl
end Go.Proofs.Ytbfoamidnekoaab
