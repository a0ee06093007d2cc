/- What stands while the search goes on: memory, the map, and the pure search. -/
import Derived.Test.YtihjhkbbpphocaaJh
namespace Go.Proofs.Ytihjhkbbpphocaa
open Go Go.RowKit Go.Lib Go.Maps
set_option linter.unusedVariables false

theorem Try.und_int : Try.prog.underlying 3 = some (.int .i64) := by kernel_rfl
theorem Try.zero_int (w : World) : (zeroValue 3).run Try.prog w = .ok (.int .i64 0) w := by kernel_rfl
theorem keyI : Keyed Try.prog 3 := int_keyed Try.und_int
/-- The map tells each met state's number. -/
structure MI {S : Type} [DecidableEq S] (kl : S → Lit) (ok : S → Prop) (D : DataW Unit) (m : List S) : Prop where
  has : ∀ t, ok t → Maps.has D (kl t) = decide (t ∈ m)
  num : ∀ t, ok t → t ∈ m → ∀ z, D.atKey (kl t) z = .lit (.int .i64 (m.idxOf t : Nat))
theorem MI.put {S : Type} [DecidableEq S] {kl : S → Lit} {ok : S → Prop} {D : DataW Unit} {m : List S} {t : S} (h : MI kl ok D m) (hinj : ∀ a b, ok a → ok b → kl a = kl b → a = b) (hD : IsMap D) (hk : WideAt.IsKeyLit (kl t)) (ht : ok t) (hn : t ∉ m) :
    MI kl ok (D.put (kl t) (.lit (.int .i64 (m.length : Nat)))) (m ++ [t]) := by
  constructor
  · intro a ha
    by_cases e : a = t
    · subst e
      rw [has_put_same hD hk]
      simp
    · rw [has_put_other (fun e2 => e (hinj a t ha ht e2)), h.has a ha]
      simp [e]
  · intro a ha hm z
    by_cases e : a = t
    · subst e
      rw [atKey_put_same hD hk, List.idxOf_append, if_neg hn]
      simp
    · have hm' : a ∈ m := by simpa [e] using hm
      rw [atKey_put_other (fun e2 => e (hinj a t ha ht e2)), h.num a ha hm' z, List.idxOf_append, if_pos hm']
theorem MI.empty {S : Type} [DecidableEq S] (kl : S → Lit) (ok : S → Prop) : MI kl ok (.map []) [] := ⟨fun t _ => by simp [Maps.has], fun t _ h => by simp at h⟩

/-- All that stands ahead of the letter c of the state i. -/
structure OS {S : Type} [DecidableEq S] (w : World) (tS z : Nat) (ce : S → List Value) (kl : S → Lit) (ok : S → Prop) (d : S → Nat → S) (K : Nat) (x : S) (acc : S → Bool) (i c : Nat) (m : List S) (n : List Nat) (vm vn va : Value) (D : DataW Unit) (f : Nat) (wr : World) : Prop where
  sh : SH w tS z ce K acc m n i vm vn va wr
  mp : wr.ownsMap Try.prog tS (plainElem Try.prog 3) (w.heap.size + 3) m.length D
  mi : MI kl ok D m
  bi : BI d K x m n
  go : bgo d K f m n = bfs d K x
  fu : f + n.length = 32768
  nl : n.length = i * K + c
  oks : ∀ t ∈ m, ok t
theorem OS.call {S : Type} [DecidableEq S] {w : World} {tS z : Nat} {ce : S → List Value} {kl : S → Lit} {ok : S → Prop} {d : S → Nat → S} {K : Nat} {x : S} {acc : S → Bool} {i c : Nat} {m : List S} {n : List Nat} {vm vn va : Value} {D : DataW Unit} {f : Nat} {wr w2 : World} (h : OS w tS z ce kl ok d K x acc i c m n vm vn va D f wr) (hb : Below wr.heap.size wr w2) : OS w tS z ce kl ok d K x acc i c m n vm vn va D f w2 :=
  ⟨h.sh.call hb, map_keep h.mp (hb.block _ h.mp.lt), h.mi, h.bi, h.go, h.fu, h.nl, h.oks⟩
theorem OS.most {S : Type} [DecidableEq S] {w : World} {tS z : Nat} {ce : S → List Value} {kl : S → Lit} {ok : S → Prop} {d : S → Nat → S} {K : Nat} {x : S} {acc : S → Bool} {i c : Nat} {m : List S} {n : List Nat} {vm vn va : Value} {D : DataW Unit} {f : Nat} {wr : World} (h : OS w tS z ce kl ok d K x acc i c m n vm vn va D f wr) : m.length ≤ 4096 ∧ n.length ≤ m.length * K := ⟨h.bi.most, h.bi.len⟩
/-- The letter leads to a state that was met. -/
theorem OS.old {S : Type} [DecidableEq S] {w : World} {tS z : Nat} {ce : S → List Value} {kl : S → Lit} {ok : S → Prop} {d : S → Nat → S} {K : Nat} {x : S} {acc : S → Bool} {i c : Nat} {m : List S} {n : List Nat} {vm vn va vn' : Value} {D : DataW Unit} {f : Nat} {wr w2 : World} {o : Obj} {s : S} (h : OS w tS z ce kl ok d K x acc i c m n vm vn va D f wr) (hA : tS ≠ 58) (hK : c < K) (hk8 : K ≤ 8)
    (hs : m[i]? = some s) (ht : d s c ∈ m) (hg : (wr.alloc o).grownBy w2 vn.ownBlock) (ho : w2.ownsRow w.heap.size 3 1 vn' (n.length + 1) (nC n ++ [.int .i64 (m.idxOf (d s c) : Nat)])) (hl : vn'.ownBlock = vn.ownBlock ∨ vn'.ownBlock = some (wr.alloc o).heap.size) :
    ∃ f', OS w tS z ce kl ok d K x acc i (c + 1) m (n ++ [m.idxOf (d s c)]) vm vn' va D f' (w2.setCell ⟨w.heap.size + 1, 1, none⟩ vn') := by
  have hsh := h.sh.nxtd hA hg ho hl
  obtain ⟨es, clock, hmb⟩ := h.sh.mb
  have hlt : i < m.length := (List.getElem?_eq_some_iff.1 hs).1
  have hf : ∃ f', f = f' + 1 := by
    cases f with
    | succ f => exact ⟨f, rfl⟩
    | zero =>
      have h1 := h.fu
      have h2 := h.nl
      have h3 := h.bi.most
      have h4 := Nat.mul_le_mul_right K (show i + 1 ≤ 4096 by omega)
      have h5 := Nat.mul_le_mul_left 4096 hk8
      rw [Nat.add_mul] at h4
      omega
  obtain ⟨f', rfl⟩ := hf
  refine ⟨f', hsh, ?_, h.mi, h.bi.old hK h.nl hs ht, ?_, by have := h.fu; simp; omega, by have := h.nl; simp; omega, h.oks⟩
  · refine map_keep h.mp ?_
    rw [heap_set_other (by omega), hg.block _ (by have := h.sh.big; simp; omega) (fun e => by
      obtain ⟨_, cur, hc⟩ := own_blk h.sh.nxt e.symm
      rw [hc] at hmb; cases hmb)]
    exact (below_new wr o).block _ h.sh.big
  · rw [← h.go, bgo_old hK h.nl hs ht]
/-- The letter leads to a new state. -/
theorem OS.new {S : Type} [DecidableEq S] {w : World} {tS z : Nat} {ce : S → List Value} {kl : S → Lit} {ok : S → Prop} {d : S → Nat → S} {K : Nat} {x : S} {acc : S → Bool} {i c : Nat} {m : List S} {n : List Nat} {vm vn va vm' vn' : Value} {D : DataW Unit} {f : Nat} {wr w1 w2 w3 : World} {o o2 : Obj} {s : S} (h : OS w tS z ce kl ok d K x acc i c m n vm vn va D f wr) (hA : tS ≠ 58) (hB : tS ≠ 4) (hK : c < K) (hk8 : K ≤ 8)
    (hinj : ∀ a b, ok a → ok b → kl a = kl b → a = b) (hkl : WideAt.IsKeyLit (kl (d s c))) (hok : ok (d s c)) (hD : IsMap D)
    (hs : m[i]? = some s) (ht : ¬ d s c ∈ m) (hm : m.length ≠ 4096)
    (hmo : w1.ownsMap Try.prog tS (plainElem Try.prog 3) (w.heap.size + 3) (m.length + 1) (D.put (kl (d s c)) (.lit (.int .i64 (m.length : Nat))))) (hmg : wr.grownBy w1 (some (w.heap.size + 3)))
    (hg : (w1.alloc o).grownBy w2 vm.ownBlock) (ho : w2.ownsRow w.heap.size tS z vm' (m.length + 1) (m.flatMap ce ++ ce (d s c))) (hl : vm'.ownBlock = vm.ownBlock ∨ vm'.ownBlock = some (w1.alloc o).heap.size)
    (hg2 : (w2.alloc o2).grownBy w3 vn.ownBlock) (ho2 : w3.ownsRow w.heap.size 3 1 vn' (n.length + 1) (nC n ++ [.int .i64 (m.length : Nat)])) (hl2 : vn'.ownBlock = vn.ownBlock ∨ vn'.ownBlock = some (w2.alloc o2).heap.size) :
    ∃ f', OS w tS z ce kl ok d K x acc i (c + 1) (m ++ [d s c]) (n ++ [m.length]) vm' vn' va (D.put (kl (d s c)) (.lit (.int .i64 (m.length : Nat)))) f' (w3.setCell ⟨w.heap.size + 1, 1, none⟩ vn') := by
  have h1 := h.sh.mapped hmg (map_blk hmo)
  have h2 := h1.metd (t := d s c) hA hB hg ho hl
  have h3 := h2.nxtd hA hg2 ho2 hl2
  have hlt : i < m.length := (List.getElem?_eq_some_iff.1 hs).1
  have hf : ∃ f', f = f' + 1 := by
    cases f with
    | succ f => exact ⟨f, rfl⟩
    | zero =>
      have h1 := h.fu
      have h2 := h.nl
      have h3 := h.bi.most
      have h4 := Nat.mul_le_mul_right K (show i + 1 ≤ 4096 by omega)
      have h5 := Nat.mul_le_mul_left 4096 hk8
      rw [Nat.add_mul] at h4
      omega
  obtain ⟨f', rfl⟩ := hf
  obtain ⟨es, clock, hmb⟩ := map_blk hmo
  have m2 : w2.ownsMap Try.prog tS (plainElem Try.prog 3) (w.heap.size + 3) (m.length + 1) (D.put (kl (d s c)) (.lit (.int .i64 (m.length : Nat)))) := by
    refine map_keep hmo ?_
    rw [hg.block _ (by have := h1.big; simp; omega) (fun e => by
      obtain ⟨_, cur, hc⟩ := own_blk h1.met e.symm
      rw [hc] at hmb; cases hmb)]
    exact (below_new w1 o).block _ h1.big
  obtain ⟨es2, clock2, hmb2⟩ := map_blk m2
  refine ⟨f', h3, ?_, h.mi.put hinj hD hkl hok ht, h.bi.new hK h.nl hs ht hm, ?_, by have := h.fu; simp; omega, by have := h.nl; simp; omega, ?_⟩
  · rw [List.length_append]
    refine map_keep m2 ?_
    rw [heap_set_other (by omega), hg2.block _ (by have := h2.big; simp; omega) (fun e => by
      obtain ⟨_, cur, hc⟩ := own_blk h2.nxt e.symm
      rw [hc] at hmb2; cases hmb2)]
    exact (below_new w2 o2).block _ h2.big
  · rw [← h.go, bgo_new hK h.nl hs ht hm]
  · intro t ht2
    rcases List.mem_append.1 ht2 with ht2 | ht2
    · exact h.oks t ht2
    · simp at ht2; subst ht2; exact hok
/-- All letters of the state were gone through: it is told whether it is accepted. -/
theorem OS.next {S : Type} [DecidableEq S] {w : World} {tS z : Nat} {ce : S → List Value} {kl : S → Lit} {ok : S → Prop} {d : S → Nat → S} {K : Nat} {x : S} {acc : S → Bool} {i : Nat} {m : List S} {n : List Nat} {vm vn va va' : Value} {D : DataW Unit} {f : Nat} {wr w2 : World} {o : Obj} {s : S} (h : OS w tS z ce kl ok d K x acc i K m n vm vn va D f wr) (hA : tS ≠ 58) (hB : tS ≠ 4)
    (hs : m[i]? = some s) (hg : (wr.alloc o).grownBy w2 va.ownBlock) (ho : w2.ownsRow w.heap.size 4 1 va' (i + 1) (bC ((m.take i).map acc) ++ [.bool (acc s)])) :
    OS w tS z ce kl ok d K x acc (i + 1) 0 m n vm vn va' D f (w2.setCell ⟨w.heap.size + 1, 2, none⟩ va') := by
  have hsh := h.sh.acpd hA hB hs hg ho
  obtain ⟨es, clock, hmb⟩ := h.sh.mb
  refine ⟨hsh, ?_, h.mi, h.bi, h.go, h.fu, by rw [h.nl, Nat.add_mul]; omega, h.oks⟩
  refine map_keep h.mp ?_
  rw [heap_set_other (by omega), hg.block _ (by have := h.sh.big; simp; omega) (fun e => by
    obtain ⟨_, cur, hc⟩ := own_blk h.sh.acp e.symm
    rw [hc] at hmb; cases hmb)]
  exact (below_new wr o).block _ h.sh.big
/-- What search answers. -/
def SQ {S : Type} (R : Option (List S × List Nat)) (K : Nat) (acc : S → Bool) (w : World) (e : Ending) (w' : World) : Prop :=
  (R = none ∧ e = .returned (.tuple #[.agg #[.int .i64 0, .slice none 0 0, .slice none 0 0], .int .i64 81]) ∧ Below w.heap.size w w') ∨
  ∃ m n vn va, R = some (m, n) ∧ e = .returned (.tuple #[.agg #[.int .i64 K, vn, va], .int .i64 0]) ∧ w'.ownsRow w.heap.size 3 1 vn n.length (nC n) ∧ w'.ownsRow w.heap.size 4 1 va m.length (bC (m.map acc)) ∧ Below w.heap.size w w'
end Go.Proofs.Ytihjhkbbpphocaa
