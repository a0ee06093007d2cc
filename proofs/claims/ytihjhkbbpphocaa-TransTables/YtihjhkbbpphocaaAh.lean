/- What '==' gives of two transformations, and of two rows of images. -/
import Derived.Test.YtihjhkbbpphocaaAf
import Derived.Laws.StructEq
namespace Go.Proofs.Ytihjhkbbpphocaa
open Go Go.RowKit Go.Lib
set_option linter.unusedVariables false

theorem eq_arr {t e : TypeId} {n d : Nat} {k : IntKind} {xs ys : Array Value} {f g : Nat → Int} (hu : Try.prog.underlying t = some (.array n e)) (he : Try.prog.underlying e = some (.int k)) (ha : ∀ w, (isAgg e).run Try.prog w = .ok false w) (hs : ∀ w, (sizeOf e).run Try.prog w = .ok 1 w)
    (hx : ∀ i, i < n → xs[i]? = some (.int k (f i))) (hy : ∀ i, i < n → ys[i]? = some (.int k (g i))) (w : World) :
    (Op.equalIn (d + 2) t (.agg xs) (.agg ys)).run Try.prog w = .ok (decide (∀ i, i < n → f i = g i)) w := by
  rw [show d + 2 = (d + 1) + 1 from rfl, Op.equalIn]
  simp only [Sem.run_bind, run_underlying hu, Result.andThen_ok, hs]
  simp only [Std.Legacy.Range.forIn_eq_forIn_range', Std.Legacy.Range.size, Nat.sub_zero, Nat.add_sub_cancel, Nat.div_one, Nat.mul_one]
  have key : ∀ l : List Nat, (∀ i ∈ l, i < n) → (forIn l ((none, ()) : Option Bool × Unit) fun i __s => do
            let a ← part e xs i
            let b ← part e ys i
            let r ← Op.equalIn (d + 1) e a b
            if (!r) = true then pure (ForInStep.done (some false, ())) else pure (ForInStep.yield (none, ()))).run Try.prog w = .ok (if ∀ i ∈ l, f i = g i then (none, ()) else (some false, ())) w := by
    intro l
    induction l with
    | nil => intro _; simp
    | cons i l ih =>
      intro hl
      have hi := hl i (by simp)
      have px : (part e xs i).run Try.prog w = .ok (.int k (f i)) w := by simp [part, Sem.run_bind, ha, hx i hi]
      have py : (part e ys i).run Try.prog w = .ok (.int k (g i)) w := by simp [part, Sem.run_bind, ha, hy i hi]
      have eq := run_equalIn_int (P := Try.prog) w d e k k (f i) (g i) he
      simp only [List.forIn_cons, Sem.run_bind, px, py, Result.andThen_ok, eq]
      by_cases q : f i = g i
      · have b : (f i == g i) = true := by simpa using q
        simp only [b, Bool.not_true, Bool.false_eq_true, if_false, Sem.run_pure, Result.andThen_ok]
        rw [ih (fun j hj => hl j (by simp [hj]))]
        simp [q]
      · have b : (f i == g i) = false := by simpa using q
        simp only [b, Bool.not_false, if_true, Sem.run_pure, Result.andThen_ok]
        rw [if_neg]
        intro h
        exact q (h i (by simp))
  rw [key _ (fun i hi => by simp at hi; omega)]
  by_cases h : ∀ i, i < n → f i = g i
  · rw [if_pos (fun i hi => h i (by simp at hi; omega)), decide_eq_true h]
    simp
  · rw [if_neg (fun q => h (fun i hi => q i (by simp; omega))), decide_eq_false h]
    simp
theorem Try.fieldsTr : (Try.prog.fieldsOf 26).toList.map (fun f => (f.name, f.type, f.offset)) = [("N", 3, 0), ("Words", 24, 1)] := by kernel_rfl
theorem Try.fieldsMv : (Try.prog.fieldsOf 79).toList.map (fun f => (f.name, f.type, f.offset)) = [("n", 3, 0), ("to", 77, 1)] := by kernel_rfl
/-- Two structs of an int and an array of ints. -/
theorem eq_two {t ta e : TypeId} {n d : Nat} {k : IntKind} {na nb : String} {xs ys : Array Value} {a b : Int} {f g : Nat → Int} (hl : (Try.prog.fieldsOf t).toList.map (fun f => (f.name, f.type, f.offset)) = [(na, 3, 0), (nb, ta, 1)]) (hna : na ≠ "_") (hnb : nb ≠ "_")
    (ht : Try.prog.underlying t = some (.struct (Try.prog.fieldsOf t))) (hst : Try.prog.stoodInHeld t = false) (hu : Try.prog.underlying ta = some (.array n e)) (he : Try.prog.underlying e = some (.int k)) (ha : ∀ w, (isAgg e).run Try.prog w = .ok false w) (hs : ∀ w, (sizeOf e).run Try.prog w = .ok 1 w)
    (haa : ∀ w, (isAgg ta).run Try.prog w = .ok true w) (hsa : ∀ w, (sizeOf ta).run Try.prog w = .ok n w) (x0 : xs[0]? = some (.int .i64 a)) (y0 : ys[0]? = some (.int .i64 b)) (hx : ∀ i, i < n → xs[i + 1]? = some (.int k (f i))) (hy : ∀ i, i < n → ys[i + 1]? = some (.int k (g i))) (w : World) :
    (Op.equalIn (d + 3) t (.agg xs) (.agg ys)).run Try.prog w = .ok (decide (a = b ∧ ∀ i, i < n → f i = g i)) w := by
  rw [show d + 3 = (d + 2) + 1 from rfl, run_equalIn_struct w (d + 2) t xs ys ht hst]
  generalize (Try.prog.fieldsOf t).toList = fs at hl
  obtain ⟨f1, f2, rfl⟩ : ∃ f1 f2, fs = [f1, f2] := by
    match fs, congrArg List.length hl with
    | [f1, f2], _ => exact ⟨f1, f2, rfl⟩
  · 
    simp only [List.map_cons, List.map_nil, List.cons.injEq, Prod.mk.injEq, and_true] at hl
    obtain ⟨⟨q1, q2, q3⟩, q4, q5, q6⟩ := hl
    have hint := Try.underlying3
    have p1 : (part 3 xs 0).run Try.prog w = .ok (.int .i64 a) w := by simp [part, Sem.run_bind, Try.isAgg3, x0]
    have p2 : (part 3 ys 0).run Try.prog w = .ok (.int .i64 b) w := by simp [part, Sem.run_bind, Try.isAgg3, y0]
    have p3 : (part ta xs 1).run Try.prog w = .ok (.agg (xs.extract 1 (1 + n))) w := by simp [part, Sem.run_bind, haa, hsa]
    have p4 : (part ta ys 1).run Try.prog w = .ok (.agg (ys.extract 1 (1 + n))) w := by simp [part, Sem.run_bind, haa, hsa]
    have sz : ∀ {zs : Array Value} {h : Nat → Int}, (∀ i, i < n → zs[i + 1]? = some (.int k (h i))) → ∀ i, i < n → (zs.extract 1 (1 + n))[i]? = some (.int k (h i)) := by
      intro zs h hz i hi
      have := hz i hi
      rw [Array.getElem?_extract]
      have hlt : i + 1 < zs.size := (Array.getElem?_eq_some_iff.1 this).1
      rw [if_pos (by omega), Nat.add_comm, this]
    have e1 := run_equalIn_int (P := Try.prog) w (d + 1) 3 .i64 .i64 a b hint
    have e2 := eq_arr (d := d) hu he ha hs (sz hx) (sz hy) w
    simp only [Op.eqFields, q1, q2, q3, q4, q5, q6, ne_eq, hna, hnb, not_false_eq_true, if_true, Sem.run_bind, p1, p2, Result.andThen_ok, e1]
    by_cases q : a = b
    · have b' : (a == b) = true := by simpa using q
      simp only [b', Bool.not_true, Bool.false_eq_true, if_false, Sem.run_bind, p3, p4, Result.andThen_ok, e2]
      by_cases r : ∀ i, i < n → f i = g i
      · rw [decide_eq_true r, decide_eq_true ⟨q, r⟩]; simp
      · rw [decide_eq_false r, decide_eq_false (fun z => r z.2)]; simp
    · have b' : (a == b) = false := by simpa using q
      simp only [b', Bool.not_false, if_true, Sem.run_pure]
      rw [decide_eq_false (fun z => q z.1)]
theorem Try.struct_tr : Try.prog.underlying 26 = some (.struct (Try.prog.fieldsOf 26)) := by kernel_rfl
theorem Try.struct_mv : Try.prog.underlying 79 = some (.struct (Try.prog.fieldsOf 79)) := by kernel_rfl
theorem agg_of {t : TypeId} {d : TypeDesc} {b : Bool} (h : Try.prog.underlying t = some d) (hb : (match d with | .struct _ | .array _ _ => true | _ => false) = b) (w : World) : (isAgg t).run Try.prog w = .ok b w := by
  subst hb
  unfold isAgg
  rw [Sem.run_bind, run_underlying h w]
  cases d <;> rfl
theorem size_of {t : TypeId} {n : Nat} (h : (Try.prog.info? t).map (·.size) = some n) (w : World) : (sizeOf t).run Try.prog w = .ok n w := by
  cases hq : Try.prog.info? t with
  | none => simp [hq] at h
  | some i =>
    have : i.size = n := by simpa [hq] using h
    simp [sizeOf, typeInfo, hq, this]
/-- Whether two structs of a number and of n numbers are the same. -/
def same2 (n : Nat) (a b : Int) (f g : Nat → Nat) : Bool := a == b && (List.range n).all fun k => f k == g k
theorem same2_iff {n : Nat} {a b : Int} {f g : Nat → Nat} : same2 n a b f g = true ↔ a = b ∧ ∀ k, k < n → f k = g k := by
  simp [same2]
theorem dec_same {n : Nat} {a b : Int} {f g : Nat → Nat} : decide (a = b ∧ ∀ i, i < n → (f i : Int) = (g i : Int)) = same2 n a b f g := by
  rw [Bool.eq_iff_iff, same2_iff, decide_eq_true_iff]
  constructor
  · exact fun h => ⟨h.1, fun k hk => by have := h.2 k hk; omega⟩
  · exact fun h => ⟨h.1, fun k hk => by rw [h.2 k hk]⟩
theorem eq_tr (N M : Int) (f g : Nat → Nat) (w : World) : (Op.equalIn 10000 26 (.agg (trC N f)) (.agg (trC M g))).run Try.prog w = .ok (same2 7 N M f g) w := by
  have := eq_two (d := 9997) (f := fun k => (f k : Int)) (g := fun k => (g k : Int)) Try.fieldsTr (by decide) (by decide) Try.struct_tr (by kernel_rfl) Try.underlying24 Try.underlying23 (agg_of Try.underlying23 rfl) (size_of (by kernel_rfl)) (agg_of Try.underlying24 rfl) (size_of (by kernel_rfl)) (trC_n N f) (trC_n M g) (fun i hi => trC_get N f hi) (fun i hi => trC_get M g hi) w
  rw [← dec_same]
  exact this
theorem eq_mv (n m : Nat) (f g : Nat → Nat) (w : World) : (Op.equalIn 10000 79 (.agg (mvC n f)) (.agg (mvC m g))).run Try.prog w = .ok (same2 64 n m f g) w := by
  have := eq_two (d := 9997) (f := fun k => (f k : Int)) (g := fun k => (g k : Int)) Try.fieldsMv (by decide) (by decide) Try.struct_mv (by kernel_rfl) Try.underlying77 Try.underlying5 (agg_of Try.underlying5 rfl) (size_of (by kernel_rfl)) (agg_of Try.underlying77 rfl) (size_of (by kernel_rfl)) (mvC_n n f) (mvC_n m g) (fun i hi => mvC_get n f hi) (fun i hi => mvC_get m g hi) w
  rw [← dec_same]
  exact this
theorem same_tr {N M : Int} {f g : Nat → Nat} : same2 7 N M f g = true ↔ trC N f = trC M g :=
  ⟨fun h => by obtain ⟨h1, h2⟩ := same2_iff.1 h; rw [h1]; exact trC_congr h2, fun h => same2_iff.2 (trC_inj h)⟩
theorem ex_neq_tr {ev : Operand → Value} {o : Oper} {ty : TypeId} {x y : Operand} {N M : Int} {f g : Nat → Nat} (ho : o.op = .binOp .neq 26 x y ty) (hx : ev x = .agg (trC N f)) (hy : ev y = .agg (trC M g)) (w : World) : (execOp ev o).run Try.prog w = .ok (.value (.bool (!same2 7 N M f g))) w := by
  unfold execOp
  simp only [ho, hx, hy, Sem.run_bind, run_eqGuard_agg w .neq 26 x y _ _ Try.eqGuardType26, Result.andThen_ok, run_neq_struct, eq_tr, Sem.run_pure]
theorem ex_neq_mv {ev : Operand → Value} {o : Oper} {ty : TypeId} {x y : Operand} {n m : Nat} {f g : Nat → Nat} (ho : o.op = .binOp .neq 79 x y ty) (hx : ev x = .agg (mvC n f)) (hy : ev y = .agg (mvC m g)) (w : World) : (execOp ev o).run Try.prog w = .ok (.value (.bool (!same2 64 n m f g))) w := by
  unfold execOp
  simp only [ho, hx, hy, Sem.run_bind, run_eqGuard_agg w .neq 79 x y _ _ Try.eqGuardType79, Result.andThen_ok, run_neq_struct, eq_mv, Sem.run_pure]
theorem ex_load_row {ev : Operand → Value} {o : Oper} {ty : TypeId} {x : Operand} {b : Nat} {w : World} {cs : Array Value} (ho : o.op = .load ty x) (hx : ev x = .pointer (some ⟨b, 0, none⟩)) (hl : (loadVar ty ⟨b, 0, none⟩).run Try.prog w = .ok (.agg cs) w) :
    (execOp ev o).run Try.prog w = .ok (.value (.agg cs)) w := by
  unfold execOp
  simp only [ho, hx, Instr.loadAt, Instr.sureAddr, Sem.run_bind, Sem.run_pure, Result.andThen_ok, hl]
theorem lv_mv {w : World} {b n : Nat} {f : Nat → Nat} (h : MvAt w b n f) : (loadVar 79 ⟨b, 0, none⟩).run Try.prog w = .ok (.agg (mvC n f)) w := run_loadVar_row w b 79 79 _ (0, 0) _ h Try.underlying79 rfl (inf_mv n f)
theorem lv_tr {w : World} {b : Nat} {N : Int} {g : Nat → Nat} (h : TrAt w b N g) : (loadVar 26 ⟨b, 0, none⟩).run Try.prog w = .ok (.agg (trC N g)) w := run_loadVar_row w b 26 26 _ (0, 0) _ h Try.underlying26 rfl (inf_tr N g)
end Go.Proofs.Ytihjhkbbpphocaa
