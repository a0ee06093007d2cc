/- Proved: eggboxlaw13.TransWord answers true at all automata's data a and words u and v (P1307): OfWord of u v is Compose of OfWord of u and of v, and is refused where one of them is refused. No condition. -/
import Derived.Test.YthglficjhgpegabAn
import Derived.Test.YthglficjhgpegabCj
import Derived.Test.YthglficjhgpegabJu
import Derived.SizedLaws
namespace Go.Proofs.Ythglficjhgpegab.transWord
open Go Go.ChangeShapes Go.WideShapes Go.ChangeAt Go.RowKit Go.Lib
open Go.ChangeMaps (open_string shut_string)
set_option linter.unusedVariables false

theorem goN_app (A : Aut) (s : Nat) (u v : List Nat) : goN A s (u ++ v) = goN A (goN A s u) v := by unfold goN; rw [List.foldl_append]
theorem lets_app (u v : ByteArray) : lets (u ++ v) = lets u ++ lets v := by
  unfold lets
  rw [← List.map_append]
  congr 1
theorem chk_app (k : Int) (h1 : 1 ≤ k) (h8 : k ≤ 8) (u v : ByteArray) : chk k (u ++ v) = 0 ↔ chk k u = 0 ∧ chk k v = 0 := by
  unfold chk
  have h : ¬ (k < 1 ∨ 8 < k) := by omega
  rw [if_neg h, if_neg h, if_neg h]
  simp only [ByteArray.data_append, Array.toList_append, List.all_append]
  by_cases a : u.data.toList.all (letterAt k) = true
  · by_cases b : v.data.toList.all (letterAt k) = true
    · simp [a, b]
    · simp [a, b]
  · simp [a]
theorem ow_app {A : Aut} (G : Good A) (u v : ByteArray) : owE A (u ++ v) = 0 ↔ owE A u = 0 ∧ owE A v = 0 := by
  unfold owE
  have e : chkA A = 0 := by unfold chkA; rw [if_pos G]
  rw [if_pos e, if_pos e, if_pos e]
  by_cases h : 64 < A.ac.length
  · rw [if_pos h, if_pos h, if_pos h]; simp
  · rw [if_neg h, if_neg h, if_neg h]
    exact chk_app A.k G.k1 G.k8 u v
theorem ow_zero {A : Aut} (G : Good A) {b : ByteArray} (h : owE A b = 0) : A.ac.length ≤ 64 ∧ chk A.k b = 0 := by
  unfold owE at h
  have e : chkA A = 0 := by unfold chkA; rw [if_pos G]
  rw [if_pos e] at h
  by_cases q : 64 < A.ac.length
  · rw [if_pos q] at h; cases h
  · rw [if_neg q] at h; exact ⟨by omega, h⟩
theorem doW_tf {A : Aut} (G : Good A) {b : ByteArray} (h : owE A b = 0) : Tf (doW A b) := by
  obtain ⟨h1, h2⟩ := ow_zero G h
  refine ⟨by rw [doW_len]; exact G.n1, by rw [doW_len]; exact h1, fun i hi => ?_⟩
  rw [doW_len] at hi ⊢
  unfold doW
  rw [tb_im _ hi]
  exact goW_lt G hi h2
theorem doW_app {A : Aut} (G : Good A) {u v : ByteArray} (h : owE A u = 0) : doW A (u ++ v) = cmp (doW A u) (doW A v) := by
  obtain ⟨h1, h2⟩ := ow_zero G h
  apply im_ext (by rw [cmp_len, doW_len, doW_len])
  intro i hi
  rw [doW_len] at hi
  rw [cmp_im _ _ (by rw [doW_len]; exact hi)]
  unfold doW
  rw [tb_im _ hi, tb_im _ hi, tb_im _ (goW_lt G hi h2), lets_app, goN_app]
theorem owV_ok {A : Aut} {b : ByteArray} (h : owE A b = 0) : owV A b = .tuple #[.agg (tC (doW A b)), .int .i64 0] := by unfold owV; rw [if_pos h]; rfl
theorem owV_two (A : Aut) (b : ByteArray) : ∃ M f, owV A b = .tuple #[.agg (trC M f), .int .i64 (owE A b)] := by
  unfold owV
  split
  · rename_i h; exact ⟨_, _, by rw [h]; rfl⟩
  · exact ⟨_, _, rfl⟩
theorem st_any (w : World) (N : Int) (g : Nat → Nat) : (storeCells ⟨w.heap.size, 0, none⟩ (trC N g).toList 0).run Try.prog (w.alloc (.cells #[.int .i64 0, .int .u64 0, .int .u64 0, .int .u64 0, .int .u64 0, .int .u64 0, .int .u64 0, .int .u64 0] 26)) = .ok () (w.alloc (.cells (trC N g) 26)) := by
  have h := st_row (cs := trC N g) (heap_alloc_new w (.cells #[.int .i64 0, .int .u64 0, .int .u64 0, .int .u64 0, .int .u64 0, .int .u64 0, .int .u64 0, .int .u64 0] 26)) rfl (trC_one N g)
  rw [World.setRow_alloc_new] at h
  exact h
/-- What a walk keeps: the automaton's box, and transformations. -/
structure KW (L : List (Nat × List Nat)) (B : Array Value) (W w : World) : Prop where
  box : RowAt w W.heap.size B
  k : KP L W w
theorem KW.call {L : List (Nat × List Nat)} {B : Array Value} {W w y : World} (h : KW L B W w) (hb : Below w.heap.size w y) : KW L B W y := ⟨h.box.stay hb, h.k.call hb⟩
theorem KW.new {L : List (Nat × List Nat)} {B : Array Value} {W w : World} (h : KW L B W w) (l : List Nat) : KW ((w.heap.size, l) :: L) B W (w.alloc (.cells (tC l) 26)) := ⟨h.box.alloc _, h.k.new l⟩

set_option maxHeartbeats 16000000 in
set_option maxRecDepth 100000 in
theorem walk (v0 : Value) (A : Aut) (u v : ByteArray) (W : World) (h0 : AR W v0 A) (n0 : NilOk v0) (m1 : (A.nx.length + 2) * 8 ≤ 140737488355328) (m2 : A.ac.length ≤ 140737488355328) (hu : u.size ≤ 140737488355327) (hv : v.size ≤ 140737488355327) :
    Calls Try.prog 4 #[v0, .string u, .string v] W fun e w' => e = .returned (.bool true) ∧ Below W.heap.size W w' := by
  obtain ⟨an, cn, aa, ca, e, h1, h2⟩ := h0.is
  have HA : Hid (∀ w', Below W.heap.size W w' → AR w' v0 A) := fun w' hb => h0.stay hb
  clear h0 h1 h2 n0
  subst e
  have huv : (u ++ v).size ≤ 9223372036854775807 := by rw [ByteArray.size_append]; omega
  have HUV : Hid ((u ++ v).size ≤ 9223372036854775807) := huv
  clear huv
  have hm : A.nx.length ≤ 9223372036854775806 := by omega
  have hm2 : A.ac.length ≤ 9223372036854775806 := by omega
  have HK0 : Hid (KW [] #[.int .i64 A.k, .slice an A.nx.length cn, .slice aa A.ac.length ca] W (W.alloc (.cells #[.int .i64 A.k, .slice an A.nx.length cn, .slice aa A.ac.length ca] 39))) := ⟨RowAt.last _ _ _, ⟨fun p hp => by simp at hp, (Below.refl _ _).alloc (Nat.le_refl _) _⟩⟩
  have hsum : u.size + v.size ≤ 281474976710654 := by omega
  go_enter Try.func4, Try.ntmps4
  go_wp2_with fail
  refine (racheck_any _ A _ (HA.out _ HK0.out.k.below) hm hm2).mono ?_
  rintro e w1 ⟨rfl, hB⟩
  have HK1 : Hid (KW [] #[.int .i64 A.k, .slice an A.nx.length cn, .slice aa A.ac.length ca] W w1) := HK0.out.call hB
  clear hB HK0
  by_cases hG : Good A
  · have hck : chkA A = 0 := by unfold chkA; rw [if_pos hG]
    rw [hck]
    clear hck
    go_wp2_with fail
    refine (knows13_any _).mono ?_
    rintro e w2 ⟨rfl, hB⟩
    have HK2 : Hid (KW [] #[.int .i64 A.k, .slice an A.nx.length cn, .slice aa A.ac.length ca] W w2) := HK1.out.call hB
    clear hB HK1
    have hbx := HK2.out.box.cell
    go_wp2_with fail
    by_cases hE : owE A u = 0 ∧ owE A v = 0
    · have tu := doW_tf hG hE.1
      have tv := doW_tf hG hE.2
      have HTU : Hid (Tf (doW A u)) := tu
      have HTV : Hid (Tf (doW A v)) := tv
      have HX : Hid (owE A (u ++ v) = 0) := (ow_app hG u v).2 hE
      have CU : Hid (∀ w', Below W.heap.size W w' → Calls Try.prog 16 #[.agg #[.int .i64 A.k, .slice an A.nx.length cn, .slice aa A.ac.length ca], .string u] w' fun e w'' => e = .returned (.tuple #[.agg (tC (doW A u)), .int .i64 0]) ∧ Below w'.heap.size w' w'') := fun w' hb => by
        have := ofWord_any _ A w' (HA.out w' hb) hm hm2 u (by omega)
        rw [owV_ok hE.1] at this
        exact this
      have CV : Hid (∀ w', Below W.heap.size W w' → Calls Try.prog 16 #[.agg #[.int .i64 A.k, .slice an A.nx.length cn, .slice aa A.ac.length ca], .string v] w' fun e w'' => e = .returned (.tuple #[.agg (tC (doW A v)), .int .i64 0]) ∧ Below w'.heap.size w' w'') := fun w' hb => by
        have := ofWord_any _ A w' (HA.out w' hb) hm hm2 v (by omega)
        rw [owV_ok hE.2] at this
        exact this
      have CX : Hid (∀ w', Below W.heap.size W w' → Calls Try.prog 16 #[.agg #[.int .i64 A.k, .slice an A.nx.length cn, .slice aa A.ac.length ca], .string (u ++ v)] w' fun e w'' => e = .returned (.tuple #[.agg (tC (doW A (u ++ v))), .int .i64 0]) ∧ Below w'.heap.size w' w'') := fun w' hb => by
        have := ofWord_any _ A w' (HA.out w' hb) hm hm2 (u ++ v) HUV.out
        rw [owV_ok HX.out] at this
        exact this
      have HLL : Hid ((doW A u).length = (doW A v).length) := by show _ = _; rw [doW_len, doW_len]
      have hs1 : sameL (doW A (u ++ v)) (cmp (doW A u) (doW A v)) = true := by
        rw [doW_app hG hE.1]
        exact (sameL_iff (cmp_tf tu tv HLL.out) (cmp_tf tu tv HLL.out)).2 rfl
      obtain ⟨lu, hlu⟩ : ∃ l, doW A u = l := ⟨_, rfl⟩
      obtain ⟨lv, hlv⟩ : ∃ l, doW A v = l := ⟨_, rfl⟩
      obtain ⟨lx, hlx⟩ : ∃ l, doW A (u ++ v) = l := ⟨_, rfl⟩
      rw [hlu] at HTU CU HLL hs1
      rw [hlv] at HTV CV HLL hs1
      rw [hlx] at CX hs1
      clear hE tu tv hlu hlv hlx hG
      refine (CU.out _ HK2.out.k.below).mono ?_
      rintro e w3 ⟨rfl, hB⟩
      have HK3 : Hid (KW [(w3.heap.size, lu)] #[.int .i64 A.k, .slice an A.nx.length cn, .slice aa A.ac.length ca] W (w3.alloc (.cells (tC lu) 26))) := (HK2.out.call hB).new lu
      clear hB HK2 hbx
      have hst := st_trNew w3 lu
      have hsz1 := tC_size lu
      have hbx := HK3.out.box.cell
      go_wp2_with fail
      refine (CV.out _ HK3.out.k.below).mono ?_
      rintro e w4 ⟨rfl, hB⟩
      have HK4 : Hid (KW [(w4.heap.size, lv), (w3.heap.size, lu)] #[.int .i64 A.k, .slice an A.nx.length cn, .slice aa A.ac.length ca] W (w4.alloc (.cells (tC lv) 26))) := (HK3.out.call hB).new lv
      clear hB HK3 hbx hst
      have hst := st_trNew w4 lv
      have hsz2 := tC_size lv
      have hbx := HK4.out.box.cell
      go_wp2_with fail
      refine (CX.out _ HK4.out.k.below).mono ?_
      rintro e w5 ⟨rfl, hB⟩
      have HK5 : Hid (KW [(w5.heap.size, lx), (w4.heap.size, lv), (w3.heap.size, lu)] #[.int .i64 A.k, .slice an A.nx.length cn, .slice aa A.ac.length ca] W (w5.alloc (.cells (tC lx) 26))) := (HK4.out.call hB).new lx
      clear hB HK4 hbx hst
      have hst := st_trNew w5 lx
      have hsz3 := tC_size lx
      go_wp2_with (first
        | (refine wl_load rfl rfl (HK5.out.k.get (b := w4.heap.size) (l := lv) (by simp)) rfl ?_)
        | (refine wl_load rfl rfl (HK5.out.k.get (b := w3.heap.size) (l := lu) (by simp)) rfl ?_)
        | (go_at_call 12; refine (num13_any _ _).mono ?_; rintro e wn ⟨rfl, rfl⟩))
      refine (compose_d lu lv HTU.out HTV.out HLL.out _).mono ?_
      rintro e w6 ⟨rfl, hB⟩
      have HK6 : Hid (KW [(w6.heap.size, cmp lu lv), (w5.heap.size, lx), (w4.heap.size, lv), (w3.heap.size, lu)] #[.int .i64 A.k, .slice an A.nx.length cn, .slice aa A.ac.length ca] W (w6.alloc (.cells (tC (cmp lu lv)) 26))) := (HK5.out.call hB).new _
      clear hB HK5 hst
      have hst := st_trNew w6 (cmp lu lv)
      have hsz4 := tC_size (cmp lu lv)
      rw [trL_tC]
      go_wp2_with (first
        | (refine wl_load rfl rfl (HK6.out.k.get (b := w6.heap.size) (l := cmp lu lv) (by simp)) rfl ?_)
        | (refine wl_load rfl rfl (HK6.out.k.get (b := w5.heap.size) (l := lx) (by simp)) rfl ?_)
        | (refine wl_eq rfl rfl rfl rfl ?_)
        | (go_at_call 12; refine (num13_any _ _).mono ?_; rintro e wn ⟨rfl, rfl⟩))
      go_ret
      exact ⟨rfl, HK6.out.k.below⟩
    · have HX : Hid (owE A (u ++ v) ≠ 0) := fun q => hE ((ow_app hG u v).1 q)
      obtain ⟨Mu, fu, qu⟩ := owV_two A u
      obtain ⟨Mv, fv, qv⟩ := owV_two A v
      obtain ⟨Mx, fx, qx⟩ := owV_two A (u ++ v)
      have CU : Hid (∀ w', Below W.heap.size W w' → Calls Try.prog 16 #[.agg #[.int .i64 A.k, .slice an A.nx.length cn, .slice aa A.ac.length ca], .string u] w' fun e w'' => e = .returned (.tuple #[.agg (trC Mu fu), .int .i64 (owE A u)]) ∧ Below w'.heap.size w' w'') := fun w' hb => by
        have := ofWord_any _ A w' (HA.out w' hb) hm hm2 u (by omega)
        rw [qu] at this
        exact this
      have CV : Hid (∀ w', Below W.heap.size W w' → Calls Try.prog 16 #[.agg #[.int .i64 A.k, .slice an A.nx.length cn, .slice aa A.ac.length ca], .string v] w' fun e w'' => e = .returned (.tuple #[.agg (trC Mv fv), .int .i64 (owE A v)]) ∧ Below w'.heap.size w' w'') := fun w' hb => by
        have := ofWord_any _ A w' (HA.out w' hb) hm hm2 v (by omega)
        rw [qv] at this
        exact this
      have CX : Hid (∀ w', Below W.heap.size W w' → Calls Try.prog 16 #[.agg #[.int .i64 A.k, .slice an A.nx.length cn, .slice aa A.ac.length ca], .string (u ++ v)] w' fun e w'' => e = .returned (.tuple #[.agg (trC Mx fx), .int .i64 (owE A (u ++ v))]) ∧ Below w'.heap.size w' w'') := fun w' hb => by
        have := ofWord_any _ A w' (HA.out w' hb) hm hm2 (u ++ v) HUV.out
        rw [qx] at this
        exact this
      clear qu qv qx hG
      obtain ⟨eu, heu⟩ : ∃ q, owE A u = q := ⟨_, rfl⟩
      obtain ⟨ev, hev⟩ : ∃ q, owE A v = q := ⟨_, rfl⟩
      obtain ⟨ex, hex⟩ : ∃ q, owE A (u ++ v) = q := ⟨_, rfl⟩
      rw [heu] at CU hE
      rw [hev] at CV hE
      rw [hex] at CX HX
      clear heu hev hex
      have hx1 : (ex != 0) = true := by rw [bne_iff_ne]; exact HX.out
      have HE : Hid (¬ (eu = 0 ∧ ev = 0)) := hE
      clear hE
      refine (CU.out _ HK2.out.k.below).mono ?_
      rintro e w3 ⟨rfl, hB⟩
      have HK3 : Hid (KW [] #[.int .i64 A.k, .slice an A.nx.length cn, .slice aa A.ac.length ca] W (w3.alloc (.cells (trC Mu fu) 26))) := (HK2.out.call hB).call ((Below.refl _ _).alloc (Nat.le_refl _) _)
      clear hB HK2 hbx
      have hst := st_any w3 Mu fu
      have hbx := HK3.out.box.cell
      go_wp2_with fail
      refine (CV.out _ HK3.out.k.below).mono ?_
      rintro e w4 ⟨rfl, hB⟩
      have HK4 : Hid (KW [] #[.int .i64 A.k, .slice an A.nx.length cn, .slice aa A.ac.length ca] W (w4.alloc (.cells (trC Mv fv) 26))) := (HK3.out.call hB).call ((Below.refl _ _).alloc (Nat.le_refl _) _)
      clear hB HK3 hbx hst
      have hst := st_any w4 Mv fv
      have hbx := HK4.out.box.cell
      go_wp2_with fail
      refine (CX.out _ HK4.out.k.below).mono ?_
      rintro e w5 ⟨rfl, hB⟩
      have HK5 : Hid (KW [] #[.int .i64 A.k, .slice an A.nx.length cn, .slice aa A.ac.length ca] W (w5.alloc (.cells (trC Mx fx) 26))) := (HK4.out.call hB).call ((Below.refl _ _).alloc (Nat.le_refl _) _)
      clear hB HK4 hbx hst
      have hst := st_any w5 Mx fx
      by_cases h1 : eu = 0
      · have h2 : ¬ ev = 0 := fun q => HE.out ⟨h1, q⟩
        have h2b : (ev != 0) = true := by rw [bne_iff_ne]; exact h2
        subst h1
        go_wp2_with (go_at_call 12; refine (num13_any _ _).mono ?_; rintro e wn ⟨rfl, rfl⟩)
        go_ret
        exact ⟨rfl, HK5.out.k.below⟩
      · have h1b : (eu != 0) = true := by rw [bne_iff_ne]; exact h1
        go_wp2_with (go_at_call 12; refine (num13_any _ _).mono ?_; rintro e wn ⟨rfl, rfl⟩)
        go_ret
        exact ⟨rfl, HK5.out.k.below⟩
  · have hck : chkA A = 80 := by unfold chkA; rw [if_neg hG]
    rw [hck]
    clear hck
    go_wp2_with fail
    refine (knows13_any _).mono ?_
    rintro e w2 ⟨rfl, hB⟩
    have HK2 : Hid (KW [] #[.int .i64 A.k, .slice an A.nx.length cn, .slice aa A.ac.length ca] W w2) := HK1.out.call hB
    clear hB HK1
    go_wp2_with fail
    go_ret
    exact ⟨rfl, HK2.out.k.below⟩

/-! ### The row's step -/
theorem own : ownKnob Try.prog.godebug = none := by kernel_rfl
set_option maxRecDepth 100000 in
theorem lifted (os : Os) (started : os.Started) (H : Type) (enc : TypeId × Value → H) :
    ReturnsInHanded {} Try.checked os 4 .any (Rows.transWordSpec.pre6 enc Try.prog Try.f4 Rows.transWordRow.domain false) (Rows.transWordSpec.post enc Try.prog Try.f4 false true false false) := by
  refine returnsInHanded_of_change_sized (C := Try.checked) own started (by kernel_rfl) Try.func4
    (ChangeSpec.witness6 (enc := enc) (C := Try.checked) false ⟨#[], #[.agg #[.int .i64 0, .slice none 0 0, .slice none 0 0], .string ByteArray.empty, .string ByteArray.empty], []⟩ 8 (by kernel_rfl) (by kernel_rfl) (by kernel_rfl) (by kernel_rfl)) ?_
  intro W base args ds gs before hval0 hW hcnd hsz0 _
  have hval : ∀ (j : Nat) t v, Try.f4.params[j]? = some t → args[j]? = some v → Value.okWide Try.prog W .any base t v := hval0
  clear hval0
  have hsz : (DataW.weightsEach Try.prog (Try.f4.params.toList ++ Rows.transWordSpec.plain.varTypes Try.prog) (ds ++ gs)).all (· ≤ reachBytes) = true := hsz0
  clear hsz0
  have hW' := hW
  obtain ⟨p, q, hA0, hV, rfl, hfz, hnd⟩ := hW
  have hA : DataW.TrodAll enc Try.prog W 0 (fun _ => true) true Try.f4.params.toList args.toList ds p := hA0
  rw [Try.params4] at hA hval hsz
  obtain ⟨v0, vs0, d0, ds0, p0, q0, hargs, rfl, rfl, h0, r0⟩ := trodAll_cons hA
  obtain ⟨v1, vs1, d1, ds1, p1, q1, rfl, rfl, rfl, h1, r1⟩ := trodAll_cons r0
  obtain ⟨v2, vs2, d2, ds2, p2, q2, rfl, rfl, rfl, h2, r2⟩ := trodAll_cons r1
  obtain ⟨rfl, rfl, rfl⟩ := trodAll_nil r2
  obtain rfl : args = #[v0, v1, v2] := by cases args; simp_all
  obtain ⟨rfl, rfl⟩ := trodVars_none hV
  obtain ⟨a0, x0, n0, w0, dk0, dn0, da0, e0, y0, z0⟩ := open_auto (hval 0 39 v0 rfl rfl) h0
  have b0 := auto_bounds hsz (j := 0) rfl (by rw [e0]; rfl) y0 z0
  have g0 : ∀ x ∈ p0, x.block < W.heap.size := fun x hx => hW'.lt x (by simp [hx])
  obtain ⟨a1, rfl, rfl, rfl, w1⟩ := open_string Try.underlying9 (hval 1 9 v1 rfl rfl) h1
  have u1 : a1.size ≤ 140737488355327 := by
    have := sized_string hsz (j := 1) (t := 9) rfl rfl
    have e : a1.data.toList.length = a1.size := rfl
    simp only [reachBytes] at this
    omega
  obtain ⟨a2, rfl, rfl, rfl, w2⟩ := open_string Try.underlying9 (hval 2 9 v2 rfl rfl) h2
  have u2 : a2.size ≤ 140737488355327 := by
    have := sized_string hsz (j := 2) (t := 9) rfl rfl
    have e : a2.data.toList.length = a2.size := rfl
    simp only [reachBytes] at this
    omega
  clear hA0
  refine (walk v0 a0 a1 a2 W x0 n0 b0.1 b0.2 u1 u2).mono fun e W' ⟨he, bel⟩ => ?_
  subst he
  exact ⟨_, rfl, _, _, _, [], _, [], hW', trodAll_mk1 (shut_bool Try.underlying4 _), (trodAll_cons_mk (Below.trod Try.laidOut (by kernel_rfl) (of_decide_eq_true (by kernel_rfl)) h0 bel g0) (trodAll_cons_mk (shut_string Try.underlying9 w1) (trodAll_cons_mk (shut_string Try.underlying9 w2) trodAll_mk0))), rfl, bel.frame _, fun h => by cases h⟩

theorem over : Rows.transWordRow.holds Try.pinned (OpenSpec.ofChange Rows.transWordSpec) :=
  OpenClaim.holds_of_wide 4 Try.f4 rfl rfl rfl rfl rfl rfl rfl ⟨rfl, rfl, rfl, rfl, rfl⟩ rfl rfl rfl rfl rfl (by kernel_rfl) Try.func4 (by kernel_rfl)
    (of_decide_eq_true (by kernel_rfl)) (by unfold Func.isWrapper; first | (rw [if_pos (by decide +kernel)]; kernel_rfl) | (rw [if_neg (by decide +kernel)]; exact ⟨rfl, rfl⟩))
    (fun os started H enc _ => lifted os started H enc)

end Go.Proofs.Ythglficjhgpegab.transWord
namespace Go.Proofs.Ythglficjhgpegab
/-- The given statement. -/
theorem transWord_holds : Rows.TransWordSaid := transWord.over
end Go.Proofs.Ythglficjhgpegab
