/- The law's shuffled: a permutation of n points out of any numbers. -/
import Derived.Test.YtihjhkbbpphocaaAy
import Derived.Test.YtihjhkbbpphocaaAw
namespace Go.Proofs.Ytihjhkbbpphocaa
open Go Go.RowKit Go.Lib
set_option linter.unusedVariables false

def pI (p : List Nat) : List Int := p.map fun (x : Nat) => (x : Int)
theorem pI_len (p : List Nat) : (pI p).length = p.length := by simp [pI]
theorem pI_toL (p : List Nat) : toL (pI p) = p := by
  unfold toL pI
  rw [List.map_map]
  have e : (Int.toNat ∘ fun (x : Nat) => (x : Int)) = id := by funext x; simp
  rw [e, List.map_id]
theorem pI_append (p : List Nat) (x : Nat) : pI (p ++ [x]) = pI p ++ [(x : Int)] := by simp [pI]
theorem pZ_get {p : List Nat} {i : Nat} (h : i < p.length) : (zCB (pI p))[i]? = some (.int .i64 (im p i : Nat)) := by simp [zCB, pI, im, h]
theorem pZ_set (p : List Nat) (i x : Nat) : zCB (pI (p.set i x)) = (zCB (pI p)).set i (.int .i64 (x : Int)) := by
  unfold zCB pI
  rw [List.map_set, List.map_set]
theorem pI_ok {p : List Nat} (h : Tf p) : okL (pI p) := by
  refine ⟨by rw [pI_len]; exact h.pos, by rw [pI_len]; exact h.le, fun i hi => ?_⟩
  rw [pI_len] at hi ⊢
  have e : (pI p).getD i 0 = ((im p i : Nat) : Int) := by simp [pI, im, hi]
  rw [e]
  have := h.lt i hi
  omega
theorem stl_inj (n : Nat) : Inj (stl n) := by
  intro i j hi hj e
  rw [stl_len] at hi hj
  rwa [stl_im hi, stl_im hj] at e
/-- Two images changed about. -/
def swp (p : List Nat) (i k : Nat) : List Nat := (p.set i (im p k)).set k (im p i)
theorem swp_len (p : List Nat) (i k : Nat) : (swp p i k).length = p.length := by simp [swp]
theorem im_set {p : List Nat} {i x j : Nat} (hi : i < p.length) : im (p.set i x) j = if j = i then x else im p j := by
  unfold im
  rw [List.getD_eq_getElem?_getD, List.getD_eq_getElem?_getD, List.getElem?_set]
  by_cases e : i = j
  · rw [if_pos e, if_pos (by omega), if_pos e.symm]
    simp
  · rw [if_neg e, if_neg (fun q => e q.symm)]
def sgB (i k j : Nat) : Nat := if j = k then i else if j = i then k else j
theorem swp_im {p : List Nat} {i k : Nat} (hi : i < p.length) (hk : k < p.length) (j : Nat) : im (swp p i k) j = im p (sgB i k j) := by
  unfold swp sgB
  rw [im_set (by simpa using hk), im_set hi]
  split
  · rfl
  · split <;> rfl
theorem sg_lt {i k j n : Nat} (hi : i < n) (hk : k < n) (hj : j < n) : sgB i k j < n := by
  unfold sgB
  split
  · exact hi
  · split <;> omega
theorem sg_inj {i k a b : Nat} (h : sgB i k a = sgB i k b) : a = b := by
  unfold sgB at h
  split at h <;> split at h <;> (try split at h) <;> (try split at h) <;> omega
theorem swp_tf {p : List Nat} (h : Tf p) {i k : Nat} (hi : i < p.length) (hk : k < p.length) : Tf (swp p i k) :=
  ⟨by rw [swp_len]; exact h.pos, by rw [swp_len]; exact h.le, fun j hj => by
    rw [swp_len] at hj ⊢
    rw [swp_im hi hk]
    exact h.lt _ (sg_lt hi hk hj)⟩
theorem swp_inj {p : List Nat} (h : Inj p) {i k : Nat} (hi : i < p.length) (hk : k < p.length) : Inj (swp p i k) := by
  intro a b ha hb e
  rw [swp_len] at ha hb
  rw [swp_im hi hk, swp_im hi hk] at e
  exact sg_inj (h _ _ (sg_lt hi hk ha) (sg_lt hi hk hb) e)
def ShQ (n : Nat) (w : World) (e : Ending) (w' : World) : Prop := ∃ v' p, Tf p ∧ Inj p ∧ p.length = n ∧ e = .returned v' ∧ w'.ownsRow w.heap.size 3 1 v' n (zCB (pI p)) ∧ Below w.heap.size w w'

end Go.Proofs.Ytihjhkbbpphocaa
