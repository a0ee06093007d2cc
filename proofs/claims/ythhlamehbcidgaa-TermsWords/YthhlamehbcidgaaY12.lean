/- terms.Print: the closures of written. -/
import Derived.Test.YthhlamehbcidgaaY11
import Derived.Test.YthhlamehbcidgaaRz
import Derived.Laws.IdiomStrings
namespace Go.Proofs.Ythhlamehbcidgaa
open Go Go.RowKit Go.Lib
set_option linter.unusedVariables false

abbrev Pc := ByteArray × Nat
def bOp : ByteArray := ⟨#[40]⟩
def bCl : ByteArray := ⟨#[41]⟩
def bOm : ByteArray := ⟨#[94, 119]⟩
def brP (p : Pc) : ByteArray := if p.2 = 3 then (bOp ++ p.1) ++ bCl else p.1
def pcV (p : Pc) : Value := .agg #[.string p.1, .int .i64 (p.2 : Nat)]
theorem run_cat {X L : ByteArray} (h : ¬ IntKind.i64.max < ((X.size + L.size : Nat) : Int)) (z : World) : (Op.stringOp .add X L).run Try.prog z = .ok (.string (X ++ L)) z := by
  have hm : IntKind.i64.max = 9223372036854775807 := by decide
  simp [Op.stringOp]
  omega
theorem Try.info_pc : (Try.prog.info? 104).map (·.size) = some 2 := by kernel_rfl
theorem brP_size (p : Pc) : (brP p).size ≤ p.1.size + 2 := by
  unfold brP
  split
  · rw [ByteArray.size_append, ByteArray.size_append]
    show bOp.size + p.1.size + bCl.size ≤ _
    have h1 : bOp.size = 1 := rfl
    have h2 : bCl.size = 1 := rfl
    omega
  · omega

set_option maxHeartbeats 1000000 in
set_option maxRecDepth 100000 in
theorem bracketed_any (p : Pc) (hs : p.1.size ≤ 1000000) (w : World) : Calls Try.prog 64 #[pcV p] w fun e w' => e = .returned (.string (brP p)) ∧ Below w.heap.size w w' := by
  obtain ⟨t, k⟩ := p
  have HB : Hid (Below w.heap.size w (w.alloc (.cells #[.string t, .int .i64 (k : Nat)] 104))) := below_new _ _
  have hq1 : (bOp ++ t).size ≤ maxLen := by rw [ByteArray.size_append]; have h1 : bOp.size = 1 := rfl; simp at hs; unfold maxLen; omega
  have hq2 : ((bOp ++ t) ++ bCl).size ≤ maxLen := by rw [ByteArray.size_append, ByteArray.size_append]; have h1 : bOp.size = 1 := rfl; have h2 : bCl.size = 1 := rfl; simp at hs; unfold maxLen; omega
  have hmx : IntKind.i64.max = 9223372036854775807 := by decide
  have h1s : bOp.size = 1 := rfl
  have h2s : bCl.size = 1 := rfl
  simp only at hs
  have hcat1 := run_cat (X := ⟨#[40]⟩) (L := t) (by rw [hmx]; show ¬ _ < ((bOp.size + t.size : Nat) : Int); omega)
  have hcat2 := run_cat (X := ⟨#[40]⟩ ++ t) (L := ⟨#[41]⟩) (by rw [hmx]; show ¬ _ < (((bOp ++ t).size + bCl.size : Nat) : Int); rw [ByteArray.size_append]; omega)
  clear hmx h1s h2s hq1 hq2
  unfold pcV brP
  by_cases hk : k = 3
  · subst hk
    rw [if_pos rfl]
    go_enter Try.func64, Try.ntmps64
    go_wp2_with fail
    go_ret
    exact ⟨rfl, HB.out⟩
  · have hkb : ((k : Int) == 3) = false := by rw [beq_eq_false_iff_ne]; omega
    have hkd : decide ((k : Int) = 3) = false := decide_eq_false (by omega)
    rw [if_neg hk]
    go_enter Try.func64, Try.ntmps64
    go_wp2_with fail
    go_ret
    exact ⟨rfl, HB.out⟩


set_option maxHeartbeats 1000000 in
set_option maxRecDepth 100000 in
theorem wr1_any (w : World) : Calls Try.prog 61 #[] w fun e w' => e = .returned (pcV (⟨#[49]⟩, 1)) ∧ Below w.heap.size w w' := by
  go_enter Try.func61, Try.ntmps61
  go_wp2_with fail
  exact bodyPost_ret (results_cell_row rfl _ _ w.heap.size 104 _ (0, 0) _ rfl (heap_last _ _) Try.underlying104 rfl (by rw [Try.info_pc]; rfl)) rfl ⟨rfl, below_new _ _⟩

set_option maxHeartbeats 1000000 in
set_option maxRecDepth 100000 in
theorem wr2_any (c : Nat) (hc : c < 256) (w : World) : Calls Try.prog 62 #[.int .u8 (c : Nat)] w fun e w' => e = .returned (pcV (⟨#[UInt8.ofNat c]⟩, 2)) ∧ Below w.heap.size w w' := by
  have hconv : Sem.run Try.prog (convert 106 9 (.slice (some ⟨w.heap.size + 1, 0, none⟩) 1 1)) ((w.alloc (.cells #[.string ⟨#[]⟩, .int .i64 0] 104)).alloc (.cells #[.int .u8 (c : Nat)] 5)) = .ok (.string ⟨#[UInt8.ofNat c]⟩) ((w.alloc (.cells #[.string ⟨#[]⟩, .int .i64 0] 104)).alloc (.cells #[.int .u8 (c : Nat)] 5)) := by
    have := run_convert_bytes_back (P := Try.prog) ((w.alloc (.cells #[.string ⟨#[]⟩, .int .i64 0] 104)).alloc (.cells #[.int .u8 (c : Nat)] 5)) 106 9 5 ⟨w.heap.size + 1, 0, none⟩ 1 [UInt8.ofNat c] Try.underlying106 Try.underlying5 Try.underlying9 (fun j hj => by
      have hj0 : j = 0 := by simpa using hj
      subst hj0
      have h0 := heap_last (w.alloc (.cells #[.string ⟨#[]⟩, .int .i64 0] 104)) (.cells #[.int .u8 (c : Nat)] 5)
      rw [World.size_alloc] at h0
      have hadd : (⟨w.heap.size + 1, 0, none⟩ : Addr).add 0 = ⟨w.heap.size + 1, 0, none⟩ := by unfold Addr.add; simp
      rw [hadd, cell_of_row _ _ _ _ _ _ h0]
      simp [UInt8.toNat_ofNat', Nat.mod_eq_of_lt hc])
    exact this
  have hA : ((w.alloc (.cells #[.string ⟨#[]⟩, .int .i64 0] 104)).alloc (.cells #[.int .u8 (c : Nat)] 5)).heap[w.heap.size]? = some (.cells #[.string ⟨#[]⟩, .int .i64 0] 104 (0, 0)) := (heap_allo (by simp) _).trans (heap_last _ _)
  have HA : Hid _ := hA
  have u0 := cell_at (j := 0) hA rfl
  have u1 := cell_at (j := 1) hA rfl
  have uf : ∀ j, ((w.alloc (.cells #[.string ⟨#[]⟩, .int .i64 0] 104)).alloc (.cells #[.int .u8 (c : Nat)] 5)).frozen? ⟨w.heap.size, j, none⟩ = false := fun j => froz_of hA
  have HB : Hid (Below w.heap.size w ((w.alloc (.cells #[.string ⟨#[]⟩, .int .i64 0] 104)).alloc (.cells #[.int .u8 (c : Nat)] 5))) := go_on (below_new _ _) (below_new _ _)
  clear hA
  go_enter Try.func62, Try.ntmps62
  go_wp2_with fail
  exact bodyPost_ret (results_cell_row rfl _ _ w.heap.size 104 _ (0, 0) _ rfl ((heap_allo (by simp) _).trans (heap_last _ _)) Try.underlying104 rfl (by rw [Try.info_pc]; rfl)) rfl ⟨rfl, go_on (below_new _ _) (below_new _ _)⟩

set_option maxHeartbeats 2000000 in
set_option maxRecDepth 100000 in
theorem wr3_any (p q : Pc) (h1 : p.1.size ≤ 1000000) (h2 : q.1.size ≤ 1000000) (w : World) : Calls Try.prog 63 #[pcV p, pcV q] w fun e w' => e = .returned (pcV (p.1 ++ brP q, 3)) ∧ Below w.heap.size w w' := by
  have HBR : Hid (∀ y, Calls Try.prog 64 #[pcV q] y fun e w' => e = .returned (.string (brP q)) ∧ Below y.heap.size y w') := fun y => bracketed_any q h2 y
  have hbs := brP_size q
  obtain ⟨B, hB⟩ : ∃ B, brP q = B := ⟨_, rfl⟩
  rw [hB] at HBR hbs ⊢
  obtain ⟨t1, k1⟩ := p
  obtain ⟨t2, k2⟩ := q
  simp only at h1 h2 hbs ⊢
  unfold pcV at HBR ⊢
  have hmx : IntKind.i64.max = 9223372036854775807 := by decide
  have hxs : ¬ IntKind.i64.max < ((t1.size + B.size : Nat) : Int) := by rw [hmx]; omega
  have hcat := run_cat hxs
  have hul : t1.size + B.size ≤ 9223372036854775807 := by omega
  obtain ⟨w3, hw3⟩ : ∃ w3, w3 = ((w.alloc (.cells #[.string t1, .int .i64 (k1 : Nat)] 104)).alloc (.cells #[.string t2, .int .i64 (k2 : Nat)] 104)).alloc (.cells #[.string ⟨#[]⟩, .int .i64 0] 104) := ⟨_, rfl⟩
  have HW3 : Hid (w3 = ((w.alloc (.cells #[.string t1, .int .i64 (k1 : Nat)] 104)).alloc (.cells #[.string t2, .int .i64 (k2 : Nat)] 104)).alloc (.cells #[.string ⟨#[]⟩, .int .i64 0] 104)) := hw3
  have HB3 : Hid (Below w.heap.size w w3) := by show Below _ _ _; rw [hw3]; exact go_on (go_on (below_new _ _) (below_new _ _)) (below_new _ _)
  have hp : w3.heap[w.heap.size]? = some (.cells #[.string t1, .int .i64 (k1 : Nat)] 104 (0, 0)) := by rw [hw3]; exact (heap_allo (by simp <;> omega) _).trans ((heap_allo (by simp) _).trans (heap_last _ _))
  have hq : w3.heap[w.heap.size + 1]? = some (.cells #[.string t2, .int .i64 (k2 : Nat)] 104 (0, 0)) := by
    have h0 := heap_last (w.alloc (.cells #[.string t1, .int .i64 (k1 : Nat)] 104)) (.cells #[.string t2, .int .i64 (k2 : Nat)] 104)
    rw [World.size_alloc] at h0
    rw [hw3]
    exact (heap_allo (by simp) _).trans h0
  have HA3 : Hid (w3.heap[w.heap.size + 1 + 1]? = some (.cells #[.string ⟨#[]⟩, .int .i64 0] 104 (0, 0))) := by
    have h0 := heap_last ((w.alloc (.cells #[.string t1, .int .i64 (k1 : Nat)] 104)).alloc (.cells #[.string t2, .int .i64 (k2 : Nat)] 104)) (.cells #[.string ⟨#[]⟩, .int .i64 0] 104)
    rw [World.size_alloc, World.size_alloc] at h0
    show _ = _
    rw [hw3]
    exact h0
  have HA3lt : Hid (w.heap.size + 1 + 1 < w3.heap.size) := (Array.getElem?_eq_some_iff.1 HA3.out).1
  have S0 : w3.drew.cell? ⟨w.heap.size, 0, none⟩ = some (.string t1) ∧ (∀ o, w3.drew.cell? ⟨w.heap.size + 1, o, none⟩ = (#[.string t2, .int .i64 (k2 : Nat)] : Array Value)[o]?) ∧ Below w3.heap.size w3 w3.drew := ⟨cell_at hp rfl, fun o => cell_of_row _ _ _ _ _ _ hq, (Below.refl _ _).drew⟩
  have HSK : Hid (∀ y z, (y.cell? ⟨w.heap.size, 0, none⟩ = some (.string t1) ∧ (∀ o, y.cell? ⟨w.heap.size + 1, o, none⟩ = (#[.string t2, .int .i64 (k2 : Nat)] : Array Value)[o]?) ∧ Below w3.heap.size w3 y) → Below y.heap.size y z → (z.cell? ⟨w.heap.size, 0, none⟩ = some (.string t1) ∧ (∀ o, z.cell? ⟨w.heap.size + 1, o, none⟩ = (#[.string t2, .int .i64 (k2 : Nat)] : Array Value)[o]?) ∧ Below w3.heap.size w3 z)) := fun y z hy hz => by
    have h3 := hy.2.2.size
    have h4 := HA3lt.out
    exact ⟨by rw [below_cell hz (by omega)]; exact hy.1, fun o => by rw [below_cell hz (by omega)]; exact hy.2.1 o, go_on hy.2.2 hz⟩
  clear hw3 hp hq hmx hxs
  go_enter Try.func63, Try.ntmps63
  go_wp2_with fail
  rw [← HW3.out]
  refine wp_region_L 6 (fun y => y.cell? ⟨w.heap.size, 0, none⟩ = some (.string t1) ∧ (∀ o, y.cell? ⟨w.heap.size + 1, o, none⟩ = (#[.string t2, .int .i64 (k2 : Nat)] : Array Value)[o]?) ∧ Below w3.heap.size w3 y) (by kernel_rfl) S0 (fun hH0 => ?_)
  clear S0
  refine wpAnyL_take (i := 0) (oi := { dst := some 5, op := Go.Op.fieldAddr 104 (Go.Operand.tmp 2) 0, type := 0, pos := "text.go:116", after := #[], guard := none }) (v := ?_) rfl (by kernel_rfl) (by kernel_rfl) (by decide) (by kernel_rfl) (by kernel_rfl) (by kernel_rfl) (fun _ _ _ h => h) (Or.inl ⟨by rfl, ?_⟩) (by assumption) ?_
  rotate_left
  · intro w' hS; go_simp; (try with_reducible rfl)
  simp only [Act.put, List.setIfInBounds_toArray, List.set_cons_zero, List.set_cons_succ]
  refine wpAnyL_take (i := 1) (oi := { dst := some 6, op := Go.Op.load 9 (Go.Operand.tmp 5), type := 9, pos := "text.go:116", after := #[{ on := 0, ground := Go.Ground.data }], guard := none }) (v := .string t1) rfl (by kernel_rfl) (by kernel_rfl) (by decide) (by kernel_rfl) (by kernel_rfl) (by kernel_rfl) (fun _ _ _ h => h) (Or.inl ⟨by rfl, ?_⟩) (by assumption) ?_
  · intro w' hS; obtain ⟨z0, z1, z2⟩ := hS; go_simp
  simp only [Act.put, List.setIfInBounds_toArray, List.set_cons_zero, List.set_cons_succ]
  refine wpAnyL_take (i := 2) (oi := { dst := some 7, op := Go.Op.load 104 (Go.Operand.tmp 3), type := 104, pos := "text.go:116", after := #[], guard := none }) (v := .agg #[.string t2, .int .i64 (k2 : Nat)]) rfl (by kernel_rfl) (by kernel_rfl) (by decide) (by kernel_rfl) (by kernel_rfl) (by kernel_rfl) (fun _ _ _ h => h) (Or.inl ⟨by rfl, ?_⟩) (by assumption) ?_
  · intro w' hS; obtain ⟨z0, z1, z2⟩ := hS; go_simp
  simp only [Act.put, List.setIfInBounds_toArray, List.set_cons_zero, List.set_cons_succ]
  refine wpAnyL_ready (rs := [3]) (by kernel_rfl) (by simp) ?_
  refine AllReadyL.cons rfl (fun KQ hK => ?_) AllReadyL.nil
  go_simp
  refine Calls.mono (HBR.out _) ?_
  rintro e y1 ⟨rfl, hb⟩
  have hN := HSK.out _ _ hH0 hb
  have HBY : Hid (Below w3.heap.size w3 y1) := go_on hH0.2.2 hb
  clear hb
  go_wp2_with fail
  refine hK.out _ _ hN (fun hH1 => ?_)
  clear hN
  clear hK KQ
  refine wpAnyL_take (i := 4) (oi := { dst := some 9, op := Go.Op.binOp Go.BinOp.add 9 (Go.Operand.tmp 6) (Go.Operand.tmp 8) 9, type := 9, pos := "text.go:116", after := #[{ on := 1, ground := Go.Ground.data }, { on := 3, ground := Go.Ground.data }], guard := none }) (v := .string (t1 ++ B)) rfl (by kernel_rfl) (by kernel_rfl) (by decide) (by kernel_rfl) (by kernel_rfl) (by kernel_rfl) (fun _ _ _ h => h) (Or.inl ⟨by rfl, ?_⟩) (by assumption) ?_
  · intro w' hS; have hq := hcat w'; go_simp
  simp only [Act.put, List.setIfInBounds_toArray, List.set_cons_zero, List.set_cons_succ]
  refine wpAnyL_take (i := 5) (oi := { dst := some 10, op := Go.Op.build 104 #[(0, Go.Operand.tmp 9), (1, Go.Operand.const (Go.Value.int Go.IntKind.i64 3))], type := 104, pos := "text.go:116", after := #[{ on := 4, ground := Go.Ground.data }], guard := none }) (v := ?_) rfl (by kernel_rfl) (by kernel_rfl) (by decide) (by kernel_rfl) (by kernel_rfl) (by kernel_rfl) (fun _ _ _ h => h) (Or.inl ⟨by rfl, ?_⟩) (by assumption) ?_
  rotate_left
  · intro w' hS; go_simp; (try with_reducible rfl)
  simp only [Act.put, List.setIfInBounds_toArray, List.set_cons_zero, List.set_cons_succ]
  refine wpAnyL_ready (rs := [6]) (by kernel_rfl) (by simp) ?_
  refine AllReadyL.last rfl (fun KQ hK => ?_)
  have hA1 : y1.heap[w.heap.size + 1 + 1]? = some (.cells #[.string ⟨#[]⟩, .int .i64 0] 104 (0, 0)) := (HBY.out.block _ HA3lt.out).trans HA3.out
  have u0 : y1.cell? ⟨w.heap.size + 1 + 1, 0, none⟩ = some (.string ⟨#[]⟩) := cell_at hA1 rfl
  have u1 : y1.cell? ⟨w.heap.size + 1 + 1, 1, none⟩ = some (.int .i64 0) := cell_at hA1 rfl
  have uf : ∀ j, y1.frozen? ⟨w.heap.size + 1 + 1, j, none⟩ = false := fun j => froz_of hA1
  go_simp
  refine hK.out _ _ ?_
  clear hK KQ
  refine wpAnyL_done (by kernel_rfl) ?_ _
  go_wp2_with fail
  refine bodyPost_ret (results_cell_row rfl _ _ (w.heap.size + 1 + 1) 104 _ (0, 0) _ rfl (heap_set (heap_set hA1)) Try.underlying104 rfl (by rw [Try.info_pc]; rfl)) rfl ⟨rfl, ?_⟩
  exact ((go_on HB3.out HBY.out).setCell (p := ⟨w.heap.size + 1 + 1, 0, none⟩) (by show w.heap.size ≤ w.heap.size + 1 + 1; omega) _).setCell (p := ⟨w.heap.size + 1 + 1, 1, none⟩) (by show w.heap.size ≤ w.heap.size + 1 + 1; omega) _

set_option maxHeartbeats 2000000 in
set_option maxRecDepth 100000 in
theorem wr4_any (p : Pc) (h1 : p.1.size ≤ 1000000) (w : World) : Calls Try.prog 65 #[pcV p] w fun e w' => e = .returned (pcV (brP p ++ bOm, 4)) ∧ Below w.heap.size w w' := by
  have hbs := brP_size p
  obtain ⟨B, hB⟩ : ∃ B, brP p = B := ⟨_, rfl⟩
  have HBR : Hid (∀ y, Calls Try.prog 64 #[pcV p] y fun e w' => e = .returned (.string B) ∧ Below y.heap.size y w') := fun y => by
    have := bracketed_any p h1 y
    rw [hB] at this
    exact this
  rw [hB] at hbs ⊢
  obtain ⟨t, k⟩ := p
  simp only at h1 hbs
  unfold pcV at HBR ⊢
  have hmx : IntKind.i64.max = 9223372036854775807 := by decide
  have hom : bOm.size = 2 := rfl
  have hcat := run_cat (X := B) (L := ⟨#[94, 119]⟩) (by rw [hmx]; show ¬ _ < ((B.size + bOm.size : Nat) : Int); omega)
  have hul : B.size + 2 ≤ 9223372036854775807 := by omega
  obtain ⟨w2, hw2⟩ : ∃ w2, w2 = (w.alloc (.cells #[.string t, .int .i64 (k : Nat)] 104)).alloc (.cells #[.string ⟨#[]⟩, .int .i64 0] 104) := ⟨_, rfl⟩
  have HW2 : Hid (w2 = (w.alloc (.cells #[.string t, .int .i64 (k : Nat)] 104)).alloc (.cells #[.string ⟨#[]⟩, .int .i64 0] 104)) := hw2
  have HB2 : Hid (Below w.heap.size w w2) := by show Below _ _ _; rw [hw2]; exact go_on (below_new _ _) (below_new _ _)
  have HA2 : Hid (w2.heap[w.heap.size + 1]? = some (.cells #[.string ⟨#[]⟩, .int .i64 0] 104 (0, 0))) := by
    have h0 := heap_last (w.alloc (.cells #[.string t, .int .i64 (k : Nat)] 104)) (.cells #[.string ⟨#[]⟩, .int .i64 0] 104)
    rw [World.size_alloc] at h0
    show _ = _
    rw [hw2]
    exact h0
  clear hw2 hmx hom
  go_enter Try.func65, Try.ntmps65
  go_wp2_with fail
  rw [← HW2.out]
  refine (HBR.out _).mono ?_
  rintro e y1 ⟨rfl, hb⟩
  have HY1 : Hid (y1.heap[w.heap.size + 1]? = some (.cells #[.string ⟨#[]⟩, .int .i64 0] 104 (0, 0))) := (hb.block _ (Array.getElem?_eq_some_iff.1 HA2.out).1).trans HA2.out
  have HBY : Hid (Below w.heap.size w y1) := go_on HB2.out hb
  have u0 := cell_at (j := 0) HY1.out rfl
  have u1 := cell_at (j := 1) HY1.out rfl
  have uf : ∀ j, y1.frozen? ⟨w.heap.size + 1, j, none⟩ = false := fun j => froz_of HY1.out
  clear hb
  go_wp2_with fail
  exact bodyPost_ret (results_cell_row rfl _ _ (w.heap.size + 1) 104 _ (0, 0) _ rfl (heap_set (heap_set HY1.out)) Try.underlying104 rfl (by rw [Try.info_pc]; rfl)) rfl ⟨rfl, (HBY.out.setCell (p := ⟨w.heap.size + 1, 0, none⟩) (by show w.heap.size ≤ w.heap.size + 1; omega) _).setCell (p := ⟨w.heap.size + 1, 1, none⟩) (by show w.heap.size ≤ w.heap.size + 1; omega) _⟩
end Go.Proofs.Ythhlamehbcidgaa
