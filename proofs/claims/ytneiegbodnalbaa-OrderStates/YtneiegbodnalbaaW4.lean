/- O12 O13 O14 O15 O16 O17, in one text. -/
import Derived.Test.YtneiegbodnalbaaW3
import Derived.Test.YtneiegbodnalbaaW1
namespace Go.Proofs.Ytneiegbodnalbaa
open Go Go.RowKit Go.Lib Go.Maps
set_option linter.unusedVariables false
attribute [-instance] List.instBEq instBEqProd

theorem esc_ahead {w : World} {cb ob : Nat} {A : Aut} {M : List (List Nat)} {N L : List Nat} {ga gs : Nat} {fa : Option Addr} {fc : Nat} (h : CX w cb ob A M N L ga gs fa fc) (i j : Nat) (hi : i < M.length) (hj : j < M.length) :
    Calls Try.prog 38 #[.pointer (some ⟨cb, 0, none⟩), .int .i64 (i : Nat), .int .i64 (j : Nat), .func (.func 52) #[.pointer (some ⟨cb, 0, none⟩)] #[]] w fun e w' => e = .returned (ahV (ahO A M N (escB L) i j)) ∧ Below w.heap.size w w' :=
  ahead_any h (escB L) 52 i j hi hj (enters_of Try.func52 (by kernel_rfl) rfl) (fun y s t hy hs ht => escapes_any (h.below hy) s t hs ht)
theorem unl_ahead {w : World} {cb ob : Nat} {A : Aut} {M : List (List Nat)} {N L : List Nat} {ga gs : Nat} {fa : Option Addr} {fc : Nat} (h : CX w cb ob A M N L ga gs fa fc) (i j : Nat) (hi : i < M.length) (hj : j < M.length) :
    Calls Try.prog 38 #[.pointer (some ⟨cb, 0, none⟩), .int .i64 (i : Nat), .int .i64 (j : Nat), .func (.func 39) #[.pointer (some ⟨cb, 0, none⟩)] #[]] w fun e w' => e = .returned (ahV (ahO A M N (unlB L) i j)) ∧ Below w.heap.size w w' :=
  ahead_any h (unlB L) 39 i j hi hj (enters_of Try.func39 (by kernel_rfl) rfl) (fun y s t hy hs ht => unlike_any (h.below hy) s t hs ht)

set_option maxHeartbeats 2000000 in
set_option maxRecDepth 100000 in
theorem oleq_any {w : World} {cb ob : Nat} {A : Aut} {M : List (List Nat)} {N L : List Nat} {ga gs : Nat} {fa : Option Addr} {fc : Nat} (h : CX w cb ob A M N L ga gs fa fc) (i j : Nat) (hi : i < M.length) (hj : j < M.length) :
    Calls Try.prog 32 #[.pointer (some ⟨cb, 0, none⟩), .int .i64 (i : Nat), .int .i64 (j : Nat)] w fun e w' => e = .returned (.bool (ahO A M N (escB L) i j).isNone) ∧ Below w.heap.size w w' := by
  have HA : Hid _ := esc_ahead h i j hi hj
  clear h hi hj
  cases hr : ahO A M N (escB L) i j with
  | none =>
    rw [hr] at HA
    unfold ahV at HA
    clear hr
    go_enter Try.func32, Try.ntmps32
    go_wp2_with fail
    refine Calls.mono HA.out ?_
    rintro e w1 ⟨rfl, hb⟩
    have HB : Hid (Below w.heap.size w w1) := hb
    clear hb
    go_wp2_with fail
    go_ret
    exact ⟨rfl, HB.out⟩
  | some p =>
    rw [hr] at HA
    unfold ahV at HA
    clear hr
    go_enter Try.func32, Try.ntmps32
    go_wp2_with fail
    refine Calls.mono HA.out ?_
    rintro e w1 ⟨rfl, hb⟩
    have HB : Hid (Below w.heap.size w w1) := hb
    clear hb
    go_wp2_with fail
    go_ret
    exact ⟨rfl, HB.out⟩

/-- Does an element behind i's and j's products with p tell them apart? -/
def tlB (A : Aut) (N : List Nat) (T : Bool → Bool → Bool) (p i j q : Nat) : Bool := T (aN A (stO A N (pr A.k.toNat N (pr A.k.toNat N p i) q))) (aN A (stO A N (pr A.k.toNat N (pr A.k.toNat N p j) q)))
/-- The least context. -/
def leO (A : Aut) (M : List (List Nat)) (N : List Nat) (B : Nat → Nat → Bool) (T : Bool → Bool → Bool) (i j : Nat) : Option (Nat × Nat) :=
  match ahO A M N B i j with
  | none => none
  | some p => match (List.range M.length).find? (tlB A N T p i j) with
    | none => none
    | some q => some (p, q)
/-- What least answers. -/
def leV (A : Aut) (N : List Nat) : Option (Nat × Nat) → Value
  | some (p, q) => .tuple #[.string (wb (lw A.k.toNat N p)), .string (wb (lw A.k.toNat N q)), .bool true]
  | none => .tuple #[.string ByteArray.empty, .string ByteArray.empty, .bool false]

theorem results_tuple3 {fn : Func} {t u v : Tmp} (h : fn.results = #[.tmp t, .tmp u, .tmp v]) (tmps : Array Value) (P : Program) (w : World) :
    (results fn tmps).run P w = .ok (.tuple #[tmps.getD t undef, tmps.getD u undef, tmps.getD v undef]) w := by
  simp [results, h]

set_option maxHeartbeats 4000000 in
set_option maxRecDepth 100000 in
theorem oleast_any {w : World} {cb ob : Nat} {A : Aut} {M : List (List Nat)} {N L : List Nat} {ga gs : Nat} {fa : Option Addr} {fc : Nat} (h : CX w cb ob A M N L ga gs fa fc) (B : Nat → Nat → Bool) (T : Bool → Bool → Bool) (nf nt : Nat) (i j : Nat) (hi : i < M.length) (hj : j < M.length)
    (hA : Calls Try.prog 38 #[.pointer (some ⟨cb, 0, none⟩), .int .i64 (i : Nat), .int .i64 (j : Nat), .func (.func nf) #[.pointer (some ⟨cb, 0, none⟩)] #[]] w fun e w' => e = .returned (ahV (ahO A M N B i j)) ∧ Below w.heap.size w w')
    (eT : ∀ args w, (callFunc nt args).run Try.prog w = .ok (.enter nt args) w)
    (hT : ∀ y a b, Calls Try.prog nt #[.bool a, .bool b] y fun e y' => e = .returned (.bool (T a b)) ∧ y = y') :
    Calls Try.prog 51 #[.pointer (some ⟨cb, 0, none⟩), .int .i64 (i : Nat), .int .i64 (j : Nat), .func (.func nf) #[.pointer (some ⟨cb, 0, none⟩)] #[], .func (.func nt) #[] #[]] w fun e w' => e = .returned (leV A N (leO A M N B T i j)) ∧ Below w.heap.size w w' := by
  have HCX0 : Hid (CX w cb ob A M N L ga gs fa fc) := h
  have HMON : Hid (Mon A M N) := h.mo.mon
  have HA : Hid (Calls Try.prog 38 #[.pointer (some ⟨cb, 0, none⟩), .int .i64 (i : Nat), .int .i64 (j : Nat), .func (.func nf) #[.pointer (some ⟨cb, 0, none⟩)] #[]] w fun e w' => e = .returned (ahV (ahO A M N B i j)) ∧ Below w.heap.size w w') := hA
  have HT : Hid (∀ y a b, Calls Try.prog nt #[.bool a, .bool b] y fun e y' => e = .returned (.bool (T a b)) ∧ y = y') := hT
  have HIJ : Hid (i < M.length ∧ j < M.length) := ⟨hi, hj⟩
  have HM5 : Hid (M.length ≤ 512) := h.mo.mon.most
  clear h hA hT hi hj
  cases hr : ahO A M N B i j with
  | none =>
    have HV : Hid (leO A M N B T i j = none) := by show _ = _; unfold leO; rw [hr]
    rw [hr] at HA
    unfold ahV at HA
    clear hr
    go_enter Try.func51, Try.ntmps51
    go_wp2_with fail
    refine Calls.mono HA.out ?_
    rintro e w1 ⟨rfl, hb⟩
    have HB : Hid (Below w.heap.size w w1) := hb
    clear hb
    go_wp2_with fail
    (try simp only [Exit.inBlock, Exit.then])
    refine bodyPost_ret (results_tuple3 rfl _ _ _) rfl ?_
    exact ⟨by rw [HV.out]; rfl, HB.out⟩
  | some p =>
    have HP : Hid (ahO A M N B i j = some p) := hr
    have HPL : Hid (p < M.length) := (mem_fsL.1 (List.mem_of_find?_eq_some hr)).1
    rw [hr] at HA
    unfold ahV at HA
    clear hr
    have hx := HMON.out.pr_lt HPL.out HIJ.out.1
    have hy := HMON.out.pr_lt HPL.out HIJ.out.2
    have HPR : Hid (∀ (u : World) (a b : Nat), Below w.heap.size w u → a < M.length → b < M.length → Calls Try.prog 60 #[.pointer (some ⟨cb, 0, none⟩), .int .i64 (a : Nat), .int .i64 (b : Nat)] u fun e w' => e = .returned (.int .i64 (pr A.k.toNat N a b : Nat)) ∧ Below u.heap.size u w') := fun u a b hu ha hb => oproduct_any (HCX0.out.below hu) a b ha hb
    have HAC : Hid (∀ (u : World) (a : Nat), Below w.heap.size w u → a < M.length → Calls Try.prog 79 #[.pointer (some ⟨cb, 0, none⟩), .int .i64 (a : Nat)] u fun e w' => e = .returned (.bool (aN A (stO A N a))) ∧ u = w') := fun u a hu ha => oaccepts_any (HCX0.out.below hu) a ha
    have HWD : Hid (∀ (u : World) (a : Nat), Below w.heap.size w u → a < M.length → Calls Try.prog 80 #[.pointer (some ⟨cb, 0, none⟩), .int .i64 (a : Nat)] u fun e w' => e = .returned (.string (wb (lw A.k.toNat N a))) ∧ Below u.heap.size u w') := fun u a hu ha => oword_any (HCX0.out.below hu) a ha
    obtain ⟨x, hxe⟩ : ∃ x, pr A.k.toNat N p i = x := ⟨_, rfl⟩
    obtain ⟨y, hye⟩ : ∃ y, pr A.k.toNat N p j = y := ⟨_, rfl⟩
    rw [hxe] at hx
    rw [hye] at hy
    have HXY : Hid (pr A.k.toNat N p i = x ∧ pr A.k.toNat N p j = y ∧ x < M.length ∧ y < M.length) := ⟨hxe, hye, hx, hy⟩
    clear hx hy hxe hye
    go_enter Try.func51, Try.ntmps51
    go_wp2_with fail
    refine Calls.mono HA.out ?_
    rintro e w1 ⟨rfl, hb⟩
    have HB1 : Hid (Below w.heap.size w w1) := hb
    clear hb HA
    go_wp2_with fail
    refine Calls.mono (HPR.out _ p i HB1.out HPL.out HIJ.out.1) ?_
    rintro e w2 ⟨rfl, hb⟩
    have HB2 : Hid (Below w.heap.size w w2) := go_on HB1.out hb
    rw [HXY.out.1]
    clear hb
    go_wp2_with fail
    refine Calls.mono (HPR.out _ p j HB2.out HPL.out HIJ.out.2) ?_
    rintro e w3 ⟨rfl, hb⟩
    have HB3 : Hid (Below w.heap.size w w3) := go_on HB2.out hb
    rw [HXY.out.2.1]
    have hc2 : w3.cell? ⟨cb, 2, none⟩ = some (.slice (some ⟨gs, 0, none⟩) M.length M.length) := cell_at (HCX0.out.below HB3.out).box rfl
    clear hb
    go_wp2_with fail
    clear hc2
    go_loopw [40] (fun vq wr => ∃ q : Nat, vq = .int .i64 (q : Nat) ∧ q ≤ M.length ∧ (∀ r, r < q → tlB A N T p i j r = false) ∧ Below w.heap.size w wr) (fun vq _ => M.length - (Go.RowKit.intOf vq).toNat)
    case atStart => exact ⟨0, rfl, Nat.zero_le _, fun r hr => absurd hr (by omega), HB3.out⟩
    case round =>
      obtain ⟨q, rfl, hq, hall, hb⟩ := hrel
      have HALL : Hid (∀ r, r < q → tlB A N T p i j r = false) := hall
      have HC : Hid (Below w.heap.size w wr) := hb
      have hm5 := HM5.out
      clear hall hb
      by_cases hlt : q < M.length
      · have hqI : (q : Int) < M.length := by omega
        have hqd : decide ((q : Int) < M.length) = true := decide_eq_true hqI
        have hq5 : q < 512 := by omega
        have HQ : Hid (q < M.length) := hlt
        obtain ⟨a, ha⟩ : ∃ a, pr A.k.toNat N x q = a := ⟨_, rfl⟩
        obtain ⟨b, hb⟩ : ∃ b, pr A.k.toNat N y q = b := ⟨_, rfl⟩
        have HAB : Hid (pr A.k.toNat N x q = a ∧ pr A.k.toNat N y q = b ∧ a < M.length ∧ b < M.length) := ⟨ha, hb, by rw [← ha]; exact HMON.out.pr_lt HXY.out.2.2.1 hlt, by rw [← hb]; exact HMON.out.pr_lt HXY.out.2.2.2 hlt⟩
        obtain ⟨ba, hba⟩ : ∃ c, aN A (stO A N a) = c := ⟨_, rfl⟩
        obtain ⟨bb, hbb⟩ : ∃ c, aN A (stO A N b) = c := ⟨_, rfl⟩
        obtain ⟨c, hc⟩ : ∃ c, T ba bb = c := ⟨_, rfl⟩
        have HTL : Hid (tlB A N T p i j q = c) := by show _ = _; unfold tlB; rw [HXY.out.1, HXY.out.2.1, ha, hb, hba, hbb, hc]
        have HBA : Hid (aN A (stO A N a) = ba ∧ aN A (stO A N b) = bb ∧ T ba bb = c) := ⟨hba, hbb, hc⟩
        clear ha hb hba hbb hc hlt hq hm5
        go_wp2_with fail
        refine Calls.mono (HPR.out _ x q HC.out HXY.out.2.2.1 HQ.out) ?_
        rintro e y1 ⟨rfl, hb⟩
        have HC1 : Hid (Below w.heap.size w y1) := go_on HC.out hb
        rw [HAB.out.1]
        clear hb
        go_wp2_with fail
        refine Calls.mono (HAC.out _ a HC1.out HAB.out.2.2.1) ?_
        rintro e y1' ⟨rfl, rfl⟩
        rw [HBA.out.1]
        go_wp2_with fail
        refine Calls.mono (HPR.out _ y q HC1.out HXY.out.2.2.2 HQ.out) ?_
        rintro e y2 ⟨rfl, hb⟩
        have HC2 : Hid (Below w.heap.size w y2) := go_on HC1.out hb
        rw [HAB.out.2.1]
        clear hb
        go_wp2_with fail
        refine Calls.mono (HAC.out _ b HC2.out HAB.out.2.2.2) ?_
        rintro e y2' ⟨rfl, rfl⟩
        rw [HBA.out.2.1]
        go_wp2_with fail
        refine Calls.mono (HT.out _ ba bb) ?_
        rintro e y2'' ⟨rfl, rfl⟩
        rw [HBA.out.2.2]
        cases c with
        | true =>
          go_wp2_with fail
          refine Calls.mono (HWD.out _ p HC2.out HPL.out) ?_
          rintro e y3 ⟨rfl, hb⟩
          have HC3 : Hid (Below w.heap.size w y3) := go_on HC2.out hb
          clear hb
          go_wp2_with fail
          refine Calls.mono (HWD.out _ q HC3.out HQ.out) ?_
          rintro e y4 ⟨rfl, hb⟩
          have HC4 : Hid (Below w.heap.size w y4) := go_on HC3.out hb
          clear hb
          have HV : Hid (leO A M N B T i j = some (p, q)) := by
            have e := find_at (l := List.range M.length) (P := tlB A N T p i j) (k := q) (by simpa using HQ.out) (fun r hr => by
              have := HALL.out r hr
              rw [List.getD_eq_getElem?_getD, List.getElem?_range (by have := HQ.out; omega)]
              exact this) (by rw [List.getD_eq_getElem?_getD, List.getElem?_range HQ.out]; exact HTL.out)
            rw [List.getD_eq_getElem?_getD, List.getElem?_range HQ.out] at e
            show _ = _
            unfold leO
            rw [HP.out]
            simp only
            rw [e]
            rfl
          go_wp2_with fail
          (try simp only [Exit.inBlock, Exit.then])
          refine bodyPost_ret (results_tuple3 rfl _ _ _) rfl ?_
          exact ⟨by rw [HV.out]; rfl, HC4.out⟩
        | false =>
          go_wp2_with fail
          go_roundw
          case rel =>
            refine ⟨q + 1, by go_num, HQ.out, fun r hr => ?_, HC2.out⟩
            by_cases e : r = q
            · rw [e]; exact HTL.out
            · exact HALL.out r (by omega)
          case measure => have := HQ.out; simp [Go.RowKit.intOf]; omega
      · have hqI : ¬ (q : Int) < M.length := by omega
        have hqd : decide ((q : Int) < M.length) = false := decide_eq_false hqI
        have HV : Hid (leO A M N B T i j = none) := by
          have e := find_no (l := List.range M.length) (P := tlB A N T p i j) (fun r hr => by
            rw [List.length_range] at hr
            have := HALL.out r (by omega)
            rw [List.getD_eq_getElem?_getD, List.getElem?_range hr]
            exact this)
          show _ = _
          unfold leO
          rw [HP.out]
          simp only
          rw [e]
        clear hlt hq hm5
        go_wp2_with fail
        (try simp only [Exit.inBlock, Exit.then])
        refine bodyPost_ret (results_tuple3 rfl _ _ _) rfl ?_
        exact ⟨by rw [HV.out]; rfl, HC.out⟩
end Go.Proofs.Ytneiegbodnalbaa

namespace Go.Proofs.Ytneiegbodnalbaa
open Go Go.RowKit Go.Lib Go.Maps
set_option linter.unusedVariables false
attribute [-instance] List.instBEq instBEqProd

theorem ck2_yes {n i j : Nat} (hi : i < n) (hj : j < n) : ckO n [(i : Int), (j : Int)] = 0 := by
  refine ckO_yes fun k hk => ?_
  have : k = 0 ∨ k = 1 := by simp at hk; omega
  rcases this with rfl | rfl
  · exact decide_eq_true ⟨by simp, by simp; omega⟩
  · exact decide_eq_true ⟨by simp, by simp; omega⟩

set_option maxHeartbeats 2000000 in
set_option maxRecDepth 100000 in
theorem Leq_ok {w : World} {ob : Nat} {A : Aut} {M : List (List Nat)} {N : List Nat} (h : MO w ob A M N) (i j : Nat) (hi : i < M.length) (hj : j < M.length) :
    Calls Try.prog 12 #[.pointer (some ⟨ob, 0, none⟩), .int .i64 (i : Nat), .int .i64 (j : Nat)] w fun e w' => ∃ L, AbV A L ∧ e = .returned (.tuple #[.bool (ahO A M N (escB L) i j).isNone, .int .i64 0]) ∧ Below w.heap.size w w' := by
  have hb0 : Below w.heap.size w (w.alloc (.cells #[.int .i64 (i : Nat), .int .i64 (j : Nat)] 3)) := below_new _ _
  have HB0 : Hid (Below w.heap.size w (w.alloc (.cells #[.int .i64 (i : Nat), .int .i64 (j : Nat)] 3))) := hb0
  have HM1 : Hid (MO (w.alloc (.cells #[.int .i64 (i : Nat), .int .i64 (j : Nat)] 3)) ob A M N) := h.below hb0
  have HCK : Hid (Calls Try.prog 28 #[.pointer (some ⟨ob, 0, none⟩), .slice (some ⟨w.heap.size, 0, none⟩) 2 2] (w.alloc (.cells #[.int .i64 (i : Nat), .int .i64 (j : Nat)] 3)) fun e w' => e = .returned (.int .i64 0) ∧ (w.alloc (.cells #[.int .i64 (i : Nat), .int .i64 (j : Nat)] 3)) = w') := by
    have q := ocheck_any (h.below hb0) (xs := [(i : Int), (j : Int)]) (c := 2) (sr_newZ w [(i : Int), (j : Int)] 3) (by simp)
    rw [ck2_yes hi hj] at q
    exact q
  have HIJ : Hid (i < M.length ∧ j < M.length) := ⟨hi, hj⟩
  clear h hi hj hb0
  go_enter Try.func12, Try.ntmps12
  go_wp2_with fail
  refine Calls.mono HCK.out ?_
  rintro e w1 ⟨rfl, rfl⟩
  have HCO : Hid _ := contextsOf_any HM1.out
  go_wp2_with fail
  refine Calls.mono HCO.out ?_
  rintro e w2 ⟨cb, L, ga, gs, fa, fc, rfl, hcx, hb⟩
  have HLQ : Hid _ := oleq_any hcx i j HIJ.out.1 HIJ.out.2
  have HAV : Hid (AbV A L) := hcx.av
  have HB2 : Hid (Below w.heap.size w w2) := go_on HB0.out hb
  clear hcx hb HCO HCK
  go_wp2_with fail
  refine Calls.mono HLQ.out ?_
  rintro e w3 ⟨rfl, hb⟩
  have HB3 : Hid (Below w.heap.size w w3) := go_on HB2.out hb
  clear hb HLQ
  go_wp2_with fail
  go_ret2
  exact ⟨L, HAV.out, rfl, HB3.out⟩

set_option maxHeartbeats 2000000 in
set_option maxRecDepth 100000 in
theorem Same_ok {w : World} {ob : Nat} {A : Aut} {M : List (List Nat)} {N : List Nat} (h : MO w ob A M N) (i j : Nat) (hi : i < M.length) (hj : j < M.length) :
    Calls Try.prog 18 #[.pointer (some ⟨ob, 0, none⟩), .int .i64 (i : Nat), .int .i64 (j : Nat)] w fun e w' => ∃ L, AbV A L ∧ e = .returned (.tuple #[.bool (ahO A M N (unlB L) i j).isNone, .int .i64 0]) ∧ Below w.heap.size w w' := by
  have hb0 : Below w.heap.size w (w.alloc (.cells #[.int .i64 (i : Nat), .int .i64 (j : Nat)] 3)) := below_new _ _
  have HB0 : Hid (Below w.heap.size w (w.alloc (.cells #[.int .i64 (i : Nat), .int .i64 (j : Nat)] 3))) := hb0
  have HM1 : Hid (MO (w.alloc (.cells #[.int .i64 (i : Nat), .int .i64 (j : Nat)] 3)) ob A M N) := h.below hb0
  have HCK : Hid (Calls Try.prog 28 #[.pointer (some ⟨ob, 0, none⟩), .slice (some ⟨w.heap.size, 0, none⟩) 2 2] (w.alloc (.cells #[.int .i64 (i : Nat), .int .i64 (j : Nat)] 3)) fun e w' => e = .returned (.int .i64 0) ∧ (w.alloc (.cells #[.int .i64 (i : Nat), .int .i64 (j : Nat)] 3)) = w') := by
    have q := ocheck_any (h.below hb0) (xs := [(i : Int), (j : Int)]) (c := 2) (sr_newZ w [(i : Int), (j : Int)] 3) (by simp)
    rw [ck2_yes hi hj] at q
    exact q
  have HIJ : Hid (i < M.length ∧ j < M.length) := ⟨hi, hj⟩
  clear h hi hj hb0
  go_enter Try.func18, Try.ntmps18
  go_wp2_with fail
  refine Calls.mono HCK.out ?_
  rintro e w1 ⟨rfl, rfl⟩
  have HCO : Hid _ := contextsOf_any HM1.out
  go_wp2_with fail
  refine Calls.mono HCO.out ?_
  rintro e w2 ⟨cb, L, ga, gs, fa, fc, rfl, hcx, hb⟩
  have HLQ : Hid _ := unl_ahead hcx i j HIJ.out.1 HIJ.out.2
  have HAV : Hid (AbV A L) := hcx.av
  have HB2 : Hid (Below w.heap.size w w2) := go_on HB0.out hb
  clear hcx hb HCO HCK
  cases hr : ahO A M N (unlB L) i j with
  | none =>
    have HR : Hid ((ahO A M N (unlB L) i j).isNone = true) := by show _ = _; rw [hr]; rfl
    rw [hr] at HLQ
    unfold ahV at HLQ
    clear hr
    go_wp2_with fail
    refine Calls.mono HLQ.out ?_
    rintro e w3 ⟨rfl, hb⟩
    have HB3 : Hid (Below w.heap.size w w3) := go_on HB2.out hb
    clear hb HLQ
    go_wp2_with fail
    go_ret2
    exact ⟨L, HAV.out, by rw [HR.out]; rfl, HB3.out⟩
  | some p =>
    have HR : Hid ((ahO A M N (unlB L) i j).isNone = false) := by show _ = _; rw [hr]; rfl
    rw [hr] at HLQ
    unfold ahV at HLQ
    clear hr
    go_wp2_with fail
    refine Calls.mono HLQ.out ?_
    rintro e w3 ⟨rfl, hb⟩
    have HB3 : Hid (Below w.heap.size w w3) := go_on HB2.out hb
    clear hb HLQ
    go_wp2_with fail
    go_ret2
    exact ⟨L, HAV.out, by rw [HR.out]; rfl, HB3.out⟩

/-- One and not the other. -/
def tellE (a b : Bool) : Bool := a && !b
def tellU (a b : Bool) : Bool := a != b

set_option maxHeartbeats 1000000 in
theorem ctx1_any (y : World) (a b : Bool) : Calls Try.prog 53 #[.bool a, .bool b] y fun e y' => e = .returned (.bool (tellE a b)) ∧ y = y' := by
  cases a <;> cases b <;>
  · go_enter Try.func53, Try.ntmps53
    go_wp2_with fail
    go_ret
    exact ⟨rfl, rfl⟩

set_option maxHeartbeats 1000000 in
theorem apt1_any (y : World) (a b : Bool) : Calls Try.prog 54 #[.bool a, .bool b] y fun e y' => e = .returned (.bool (tellU a b)) ∧ y = y' := by
  cases a <;> cases b <;>
  · go_enter Try.func54, Try.ntmps54
    go_wp2_with fail
    go_ret
    exact ⟨rfl, rfl⟩

/-- What Context answers. -/
def ctV (A : Aut) (N : List Nat) : Option (Nat × Nat) → Value
  | some (p, q) => .tuple #[.string (wb (lw A.k.toNat N p)), .string (wb (lw A.k.toNat N q)), .bool true, .int .i64 0]
  | none => .tuple #[.string ByteArray.empty, .string ByteArray.empty, .bool false, .int .i64 0]

theorem results_tuple4O {fn : Func} {t u v x : Tmp} (h : fn.results = #[.tmp t, .tmp u, .tmp v, .tmp x]) (tmps : Array Value) (P : Program) (w : World) :
    (results fn tmps).run P w = .ok (.tuple #[tmps.getD t undef, tmps.getD u undef, tmps.getD v undef, tmps.getD x undef]) w := by
  simp [results, h]

set_option maxHeartbeats 2000000 in
set_option maxRecDepth 100000 in
theorem Context_ok {w : World} {ob : Nat} {A : Aut} {M : List (List Nat)} {N : List Nat} (h : MO w ob A M N) (i j : Nat) (hi : i < M.length) (hj : j < M.length) :
    Calls Try.prog 25 #[.pointer (some ⟨ob, 0, none⟩), .int .i64 (i : Nat), .int .i64 (j : Nat)] w fun e w' => ∃ L, AbV A L ∧ e = .returned (ctV A N (leO A M N (escB L) tellE i j)) ∧ Below w.heap.size w w' := by
  have hb0 : Below w.heap.size w (w.alloc (.cells #[.int .i64 (i : Nat), .int .i64 (j : Nat)] 3)) := below_new _ _
  have HB0 : Hid (Below w.heap.size w (w.alloc (.cells #[.int .i64 (i : Nat), .int .i64 (j : Nat)] 3))) := hb0
  have HM1 : Hid (MO (w.alloc (.cells #[.int .i64 (i : Nat), .int .i64 (j : Nat)] 3)) ob A M N) := h.below hb0
  have HCK : Hid (Calls Try.prog 28 #[.pointer (some ⟨ob, 0, none⟩), .slice (some ⟨w.heap.size, 0, none⟩) 2 2] (w.alloc (.cells #[.int .i64 (i : Nat), .int .i64 (j : Nat)] 3)) fun e w' => e = .returned (.int .i64 0) ∧ (w.alloc (.cells #[.int .i64 (i : Nat), .int .i64 (j : Nat)] 3)) = w') := by
    have q := ocheck_any (h.below hb0) (xs := [(i : Int), (j : Int)]) (c := 2) (sr_newZ w [(i : Int), (j : Int)] 3) (by simp)
    rw [ck2_yes hi hj] at q
    exact q
  have HIJ : Hid (i < M.length ∧ j < M.length) := ⟨hi, hj⟩
  clear h hi hj hb0
  go_enter Try.func25, Try.ntmps25
  go_wp2_with fail
  refine Calls.mono HCK.out ?_
  rintro e w1 ⟨rfl, rfl⟩
  have HCO : Hid _ := contextsOf_any HM1.out
  go_wp2_with fail
  refine Calls.mono HCO.out ?_
  rintro e w2 ⟨cb, L, ga, gs, fa, fc, rfl, hcx, hb⟩
  have HLQ : Hid _ := oleast_any hcx (escB L) tellE 52 53 i j HIJ.out.1 HIJ.out.2 (esc_ahead hcx i j HIJ.out.1 HIJ.out.2) (enters_of Try.func53 (by kernel_rfl) rfl) ctx1_any
  have HAV : Hid (AbV A L) := hcx.av
  have HB2 : Hid (Below w.heap.size w w2) := go_on HB0.out hb
  clear hcx hb HCO HCK
  cases hr : leO A M N (escB L) tellE i j with
  | none =>
    have HR : Hid (leO A M N (escB L) tellE i j = none) := hr
    rw [hr] at HLQ
    unfold leV at HLQ
    clear hr
    go_wp2_with fail
    refine Calls.mono HLQ.out ?_
    rintro e w3 ⟨rfl, hb⟩
    have HB3 : Hid (Below w.heap.size w w3) := go_on HB2.out hb
    clear hb HLQ
    go_wp2_with fail
    (try simp only [Exit.inBlock, Exit.then])
    refine bodyPost_ret (results_tuple4O rfl _ _ _) rfl ?_
    exact ⟨L, HAV.out, by rw [HR.out]; rfl, HB3.out⟩
  | some pq =>
    obtain ⟨p, q⟩ := pq
    have HR : Hid (leO A M N (escB L) tellE i j = some (p, q)) := hr
    rw [hr] at HLQ
    unfold leV at HLQ
    clear hr
    go_wp2_with fail
    refine Calls.mono HLQ.out ?_
    rintro e w3 ⟨rfl, hb⟩
    have HB3 : Hid (Below w.heap.size w w3) := go_on HB2.out hb
    clear hb HLQ
    go_wp2_with fail
    (try simp only [Exit.inBlock, Exit.then])
    refine bodyPost_ret (results_tuple4O rfl _ _ _) rfl ?_
    exact ⟨L, HAV.out, by rw [HR.out]; rfl, HB3.out⟩

set_option maxHeartbeats 2000000 in
set_option maxRecDepth 100000 in
theorem Apart_ok {w : World} {ob : Nat} {A : Aut} {M : List (List Nat)} {N : List Nat} (h : MO w ob A M N) (i j : Nat) (hi : i < M.length) (hj : j < M.length) :
    Calls Try.prog 26 #[.pointer (some ⟨ob, 0, none⟩), .int .i64 (i : Nat), .int .i64 (j : Nat)] w fun e w' => ∃ L, AbV A L ∧ e = .returned (ctV A N (leO A M N (unlB L) tellU i j)) ∧ Below w.heap.size w w' := by
  have hb0 : Below w.heap.size w (w.alloc (.cells #[.int .i64 (i : Nat), .int .i64 (j : Nat)] 3)) := below_new _ _
  have HB0 : Hid (Below w.heap.size w (w.alloc (.cells #[.int .i64 (i : Nat), .int .i64 (j : Nat)] 3))) := hb0
  have HM1 : Hid (MO (w.alloc (.cells #[.int .i64 (i : Nat), .int .i64 (j : Nat)] 3)) ob A M N) := h.below hb0
  have HCK : Hid (Calls Try.prog 28 #[.pointer (some ⟨ob, 0, none⟩), .slice (some ⟨w.heap.size, 0, none⟩) 2 2] (w.alloc (.cells #[.int .i64 (i : Nat), .int .i64 (j : Nat)] 3)) fun e w' => e = .returned (.int .i64 0) ∧ (w.alloc (.cells #[.int .i64 (i : Nat), .int .i64 (j : Nat)] 3)) = w') := by
    have q := ocheck_any (h.below hb0) (xs := [(i : Int), (j : Int)]) (c := 2) (sr_newZ w [(i : Int), (j : Int)] 3) (by simp)
    rw [ck2_yes hi hj] at q
    exact q
  have HIJ : Hid (i < M.length ∧ j < M.length) := ⟨hi, hj⟩
  clear h hi hj hb0
  go_enter Try.func26, Try.ntmps26
  go_wp2_with fail
  refine Calls.mono HCK.out ?_
  rintro e w1 ⟨rfl, rfl⟩
  have HCO : Hid _ := contextsOf_any HM1.out
  go_wp2_with fail
  refine Calls.mono HCO.out ?_
  rintro e w2 ⟨cb, L, ga, gs, fa, fc, rfl, hcx, hb⟩
  have HLQ : Hid _ := oleast_any hcx (unlB L) tellU 39 54 i j HIJ.out.1 HIJ.out.2 (unl_ahead hcx i j HIJ.out.1 HIJ.out.2) (enters_of Try.func54 (by kernel_rfl) rfl) apt1_any
  have HAV : Hid (AbV A L) := hcx.av
  have HB2 : Hid (Below w.heap.size w w2) := go_on HB0.out hb
  clear hcx hb HCO HCK
  cases hr : leO A M N (unlB L) tellU i j with
  | none =>
    have HR : Hid (leO A M N (unlB L) tellU i j = none) := hr
    rw [hr] at HLQ
    unfold leV at HLQ
    clear hr
    go_wp2_with fail
    refine Calls.mono HLQ.out ?_
    rintro e w3 ⟨rfl, hb⟩
    have HB3 : Hid (Below w.heap.size w w3) := go_on HB2.out hb
    clear hb HLQ
    go_wp2_with fail
    (try simp only [Exit.inBlock, Exit.then])
    refine bodyPost_ret (results_tuple4O rfl _ _ _) rfl ?_
    exact ⟨L, HAV.out, by rw [HR.out]; rfl, HB3.out⟩
  | some pq =>
    obtain ⟨p, q⟩ := pq
    have HR : Hid (leO A M N (unlB L) tellU i j = some (p, q)) := hr
    rw [hr] at HLQ
    unfold leV at HLQ
    clear hr
    go_wp2_with fail
    refine Calls.mono HLQ.out ?_
    rintro e w3 ⟨rfl, hb⟩
    have HB3 : Hid (Below w.heap.size w w3) := go_on HB2.out hb
    clear hb HLQ
    go_wp2_with fail
    (try simp only [Exit.inBlock, Exit.then])
    refine bodyPost_ret (results_tuple4O rfl _ _ _) rfl ?_
    exact ⟨L, HAV.out, by rw [HR.out]; rfl, HB3.out⟩

set_option maxHeartbeats 2000000 in
set_option maxRecDepth 100000 in
theorem States_ok {w : World} {ob : Nat} {A : Aut} {M : List (List Nat)} {N : List Nat} (h : MO w ob A M N) :
    Calls Try.prog 11 #[.pointer (some ⟨ob, 0, none⟩)] w fun e w' => ∃ g L, e = .returned (.tuple #[.slice (some ⟨g, 0, none⟩) A.ac.length A.ac.length, .int .i64 0]) ∧ w.heap.size ≤ g ∧ LS w' g L ∧ AbV A L ∧ Below w.heap.size w w' := by
  have HM : Hid (MO w ob A M N) := h
  have HMON : Hid (Mon A M N) := h.mon
  have HCK : Hid (Calls Try.prog 28 #[.pointer (some ⟨ob, 0, none⟩), .slice none 0 0] w fun e w' => e = .returned (.int .i64 0) ∧ w = w') := by
    have q := ocheck_any h (a := none) (xs := []) (c := 0) (SR.nil _ _) (by simp)
    exact q
  have HAU : Hid _ := mAuto_ok h
  clear h
  go_enter Try.func11, Try.ntmps11
  go_wp2_with fail
  refine Calls.mono HCK.out ?_
  rintro e w1 ⟨rfl, rfl⟩
  go_wp2_with fail
  refine Calls.mono HAU.out ?_
  rintro e w1 ⟨v, rfl, har, hb⟩
  have HAB : Hid _ := aboveIn_any har HMON.out.G HMON.out.n64
  have HB1 : Hid (Below w.heap.size w w1) := hb
  clear har hb HAU HCK
  go_wp2_with fail
  refine Calls.mono HAB.out ?_
  rintro e w2 ⟨g, L, rfl, hg, hls, hav, hb⟩
  have HLS : Hid (LS w2 g L ∧ AbV A L ∧ w.heap.size ≤ g) := ⟨hls, hav, Nat.le_trans HB1.out.size hg⟩
  have HB2 : Hid (Below w.heap.size w w2) := go_on HB1.out hb
  clear hg hls hav hb HAB
  go_wp2_with fail
  go_ret2
  exact ⟨g, L, rfl, HLS.out.2.2, HLS.out.1, HLS.out.2.1, HB2.out⟩
end Go.Proofs.Ytneiegbodnalbaa

namespace Go.Proofs.Ytneiegbodnalbaa
open Go Go.RowKit Go.Lib Go.Maps
set_option linter.unusedVariables false
attribute [-instance] List.instBEq instBEqProd

theorem fs_ex {A : Aut} {N : List Nat} {n p : Nat} (hp : p < n) : ∃ p0, p0 ∈ fsL A N n ∧ stO A N p0 = stO A N p := by
  obtain ⟨q, ⟨hq1, hq2⟩, hm⟩ := least_of (p := fun q => q < n ∧ stO A N q = stO A N p) ⟨p, hp, rfl⟩
  refine ⟨q, mem_fsL.2 ⟨hq1, fsB_iff.2 fun j hj e => hm j hj ⟨by omega, e.trans hq2⟩⟩, hq2⟩

/-- Nothing behind p tells i and j apart. -/
theorem ah_none {A : Aut} {M : List (List Nat)} {N : List Nat} (h : Mon A M N) {B : Nat → Nat → Bool} {P : Nat → Nat → Prop} (hB : ∀ s t, s < A.ac.length → t < A.ac.length → (B s t = false ↔ P s t)) {i j : Nat} (hi : i < M.length) (hj : j < M.length) :
    (ahO A M N B i j).isNone = true ↔ ∀ p, p < M.length → P (stO A N (Go.Proofs.Ytneiegbodnalbaa.pr A.k.toNat N p i)) (stO A N (Go.Proofs.Ytneiegbodnalbaa.pr A.k.toNat N p j)) := by
  have hb : ∀ p, p < M.length → (apB A N B i j p = false ↔ P (stO A N (Go.Proofs.Ytneiegbodnalbaa.pr A.k.toNat N p i)) (stO A N (Go.Proofs.Ytneiegbodnalbaa.pr A.k.toNat N p j))) := fun p hp => hB _ _ (stO_lt h (h.pr_lt hp hi)) (stO_lt h (h.pr_lt hp hj))
  unfold ahO
  rw [Option.isNone_iff_eq_none, List.find?_eq_none]
  constructor
  · intro q p hp
    obtain ⟨p0, h0, e⟩ := fs_ex (A := A) (N := N) hp
    have hp0 := (mem_fsL.1 h0).1
    have r := (hb p0 hp0).1 (by simpa using q p0 h0)
    rw [stO_pr h hp0 hi, stO_pr h hp0 hj, e, ← stO_pr h hp hi, ← stO_pr h hp hj] at r
    exact r
  · intro q p hp
    have := (hb p (mem_fsL.1 hp).1).2 (q p (mem_fsL.1 hp).1)
    rw [this]
    simp

/-- i is at most j. -/
def LqO (A : Aut) (M : List (List Nat)) (N : List Nat) (i j : Nat) : Prop := ∀ p, p < M.length → Inc A (stO A N (pr A.k.toNat N p i)) (stO A N (pr A.k.toNat N p j))
theorem leq_iff {A : Aut} {M : List (List Nat)} {N L : List Nat} (h : Mon A M N) (hv : AbV A L) {i j : Nat} (hi : i < M.length) (hj : j < M.length) : (ahO A M N (escB L) i j).isNone = true ↔ LqO A M N i j := ah_none h (fun s t hs ht => escB_iff hv hs ht) hi hj
theorem same_iff {A : Aut} {M : List (List Nat)} {N L : List Nat} (h : Mon A M N) (hv : AbV A L) {i j : Nat} (hi : i < M.length) (hj : j < M.length) : (ahO A M N (unlB L) i j).isNone = true ↔ LqO A M N i j ∧ LqO A M N j i := by
  rw [ah_none h (P := fun s t => Inc A s t ∧ Inc A t s) (fun s t hs ht => unlB_iff hv hs ht) hi hj]
  exact ⟨fun q => ⟨fun p hp => (q p hp).1, fun p hp => (q p hp).2⟩, fun q p hp => ⟨q.1 p hp, q.2 p hp⟩⟩
/-- What Leq tells. -/
noncomputable def lqV (A : Aut) (M : List (List Nat)) (N : List Nat) (i j : Nat) : Bool := @decide (LqO A M N i j) (Classical.propDecidable _)
theorem lqV_iff {A : Aut} {M : List (List Nat)} {N : List Nat} {i j : Nat} : lqV A M N i j = true ↔ LqO A M N i j := by
  unfold lqV
  exact @decide_eq_true_iff _ (Classical.propDecidable _)
theorem leq_val {A : Aut} {M : List (List Nat)} {N L : List Nat} (h : Mon A M N) (hv : AbV A L) {i j : Nat} (hi : i < M.length) (hj : j < M.length) : (ahO A M N (escB L) i j).isNone = lqV A M N i j := by
  rw [Bool.eq_iff_iff, leq_iff h hv hi hj, lqV_iff]
theorem same_val {A : Aut} {M : List (List Nat)} {N L : List Nat} (h : Mon A M N) (hv : AbV A L) {i j : Nat} (hi : i < M.length) (hj : j < M.length) : (ahO A M N (unlB L) i j).isNone = (lqV A M N i j && lqV A M N j i) := by
  rw [Bool.eq_iff_iff, same_iff h hv hi hj, Bool.and_eq_true, lqV_iff, lqV_iff]

theorem Leq_v {w : World} {ob : Nat} {A : Aut} {M : List (List Nat)} {N : List Nat} (h : MO w ob A M N) (i j : Nat) (hi : i < M.length) (hj : j < M.length) :
    Calls Try.prog 12 #[.pointer (some ⟨ob, 0, none⟩), .int .i64 (i : Nat), .int .i64 (j : Nat)] w fun e w' => e = .returned (.tuple #[.bool (lqV A M N i j), .int .i64 0]) ∧ Below w.heap.size w w' := by
  refine (Leq_ok h i j hi hj).mono ?_
  rintro e w' ⟨L, hv, rfl, hb⟩
  exact ⟨by rw [leq_val h.mon hv hi hj], hb⟩
theorem Same_v {w : World} {ob : Nat} {A : Aut} {M : List (List Nat)} {N : List Nat} (h : MO w ob A M N) (i j : Nat) (hi : i < M.length) (hj : j < M.length) :
    Calls Try.prog 18 #[.pointer (some ⟨ob, 0, none⟩), .int .i64 (i : Nat), .int .i64 (j : Nat)] w fun e w' => e = .returned (.tuple #[.bool (lqV A M N i j && lqV A M N j i), .int .i64 0]) ∧ Below w.heap.size w w' := by
  refine (Same_ok h i j hi hj).mono ?_
  rintro e w' ⟨L, hv, rfl, hb⟩
  exact ⟨by rw [same_val h.mon hv hi hj], hb⟩

/-! The law's own monoid. -/
theorem pA_mon : Mon pA pM pN := mon_of pA_good (by decide) pA_el
theorem pA_dead : ∀ u : List Nat, Lt 2 u → goN pA 2 u = 2
  | [], _ => rfl
  | c :: u, hu => by
    have hc := hu.cons.1
    have e : dN pA 2 c = 2 := by
      have : c = 0 ∨ c = 1 := by omega
      rcases this with rfl | rfl <;> decide +kernel
    show goN pA (dN pA 2 c) u = 2
    rw [e]
    exact pA_dead u hu.cons.2
theorem pA_leq : lqV pA pM pN 3 1 = true := by
  rw [lqV_iff]
  intro p hp u hu ha
  have hp6 : p < 6 := hp
  have e : stO pA pN (pr pA.k.toNat pN p 3) = 2 := by
    have : p = 0 ∨ p = 1 ∨ p = 2 ∨ p = 3 ∨ p = 4 ∨ p = 5 := by omega
    rcases this with rfl | rfl | rfl | rfl | rfl | rfl <;> decide +kernel
  rw [e, pA_dead u hu] at ha
  exact absurd ha (by decide +kernel)
theorem pA_ctx {L : List Nat} (hv : AbV pA L) : leO pA pM pN (escB L) tellE 0 4 = some (1, 2) := by
  have hF : fsL pA pN pM.length = [0, 1, 2] := by decide +kernel
  have h0 : apB pA pN (escB L) 0 4 0 = false := by
    have e1 : stO pA pN (pr pA.k.toNat pN 0 0) = 0 := by decide +kernel
    have e2 : stO pA pN (pr pA.k.toNat pN 0 4) = 0 := by decide +kernel
    unfold apB
    rw [e1, e2]
    exact (escB_iff hv (by decide) (by decide)).2 (Inc.refl _ _)
  have h1 : apB pA pN (escB L) 0 4 1 = true := by
    have e1 : stO pA pN (pr pA.k.toNat pN 1 0) = 1 := by decide +kernel
    have e2 : stO pA pN (pr pA.k.toNat pN 1 4) = 2 := by decide +kernel
    cases q : apB pA pN (escB L) 0 4 1 with
    | true => rfl
    | false =>
      unfold apB at q
      rw [e1, e2] at q
      have := (escB_iff hv (by decide) (by decide)).1 q [1] (Lt.one (by decide)) (by decide +kernel)
      exact absurd this (by decide +kernel)
  have hA : ahO pA pM pN (escB L) 0 4 = some 1 := by
    unfold ahO
    rw [hF, List.find?_cons_of_neg (by rw [h0]; simp), List.find?_cons_of_pos (by rw [h1])]
  unfold leO
  rw [hA]
  have hq : (List.range pM.length).find? (tlB pA pN tellE 1 0 4) = some 2 := by decide +kernel
  simp only
  rw [hq]

set_option maxHeartbeats 1000000 in
theorem num18_any (n : Int) (w : World) : Calls Try.prog 14 #[.int .i64 n] w fun e w' => e = .returned (.int .i64 n) ∧ w = w' := by
  go_enter Try.func14, Try.ntmps14
  go_wp2_with fail
  go_ret
  exact ⟨rfl, rfl⟩

set_option maxHeartbeats 4000000 in
set_option maxRecDepth 100000 in
theorem live18_any (w : World) : Calls Try.prog 8 #[] w fun e w' => e = .returned (.bool true) ∧ Below w.heap.size w w' := by
  have hwa : Hid (wb (lw pA.k.toNat pN 1) = ⟨#[97]⟩) := by show _ = _; decide +kernel
  have hwb : Hid (wb (lw pA.k.toNat pN 2) = ⟨#[98]⟩) := by show _ = _; decide +kernel
  have HCV : Hid (ctV pA pN (some (1, 2)) = .tuple #[.string ⟨#[97]⟩, .string ⟨#[98]⟩, .bool true, .int .i64 0]) := by
    show Value.tuple #[.string (wb (lw pA.k.toNat pN 1)), .string (wb (lw pA.k.toNat pN 2)), .bool true, .int .i64 0] = _
    rw [hwa.out, hwb.out]
  go_enter Try.func8, Try.ntmps8
  go_wp2_with fail
  refine (plain_any w).mono ?_
  rintro e w1 ⟨v, rfl, hAR, hB1⟩
  have HB1 : Hid (Below w.heap.size w w1) := hB1
  have HAR : Hid (AR w1 v pA) := hAR
  clear hB1 hAR
  go_wp2_with fail
  refine (build_any v pA w1 HAR.out pA_good (by decide)).mono ?_
  rintro e w2 (⟨hno, _⟩ | ⟨ob, M, N, rfl, hE, hMO, hB2⟩)
  · rw [pA_el] at hno
    cases hno
  rw [pA_el] at hE
  simp only [Option.some.injEq, Prod.mk.injEq] at hE
  obtain ⟨rfl, rfl⟩ := hE
  have HM : Hid (MO w2 ob pA pM pN) := hMO
  have HB2 : Hid (Below w.heap.size w w2) := go_on HB1.out hB2
  have HLQ : Hid _ := Leq_v hMO 3 1 (by decide) (by decide)
  rw [pA_leq] at HLQ
  clear hMO hB2
  go_wp2_with fail
  refine Calls.mono HLQ.out ?_
  rintro e w3 ⟨rfl, hb⟩
  have HB3 : Hid (Below w.heap.size w w3) := go_on HB2.out hb
  have HCT : Hid _ := Context_ok (HM.out.below hb) 0 4 (by decide) (by decide)
  clear hb HLQ
  go_wp2_with fail
  refine Calls.mono HCT.out ?_
  rintro e w4 ⟨L, hv, rfl, hb⟩
  rw [pA_ctx hv]
  have HB4 : Hid (Below w.heap.size w w4) := go_on HB3.out hb
  clear hb HCT hv
  rw [HCV.out]
  go_wp2_with (go_at_call 14; refine (num18_any _ _).mono ?_; rintro e yn ⟨rfl, hyn⟩; subst yn)
  go_ret
  exact ⟨rfl, HB4.out⟩
end Go.Proofs.Ytneiegbodnalbaa

namespace Go.Proofs.Ytneiegbodnalbaa
open Go Go.RowKit Go.Lib Go.Maps
set_option linter.unusedVariables false
attribute [-instance] List.instBEq instBEqProd

set_option maxHeartbeats 1000000 in
set_option maxRecDepth 100000 in
theorem states_no (p : Option Addr) (w : World) (h : NoM w (.pointer p)) : Calls Try.prog 11 #[.pointer p] w fun e w' => e = .returned (.tuple #[.slice none 0 0, .int .i64 1]) ∧ Below w.heap.size w w' := by
  have HB : Hid (Below w.heap.size w w) := Below.refl _ _
  have HN : Hid (NoM w (.pointer p)) := h.below HB.out
  clear h
  go_enter Try.func11, Try.ntmps11
  go_wp2_with fail
  refine (ocheck_no _ _ _ HN.out).mono ?_
  rintro e w1 ⟨rfl, rfl⟩
  go_wp2_with fail
  go_ret2
  exact ⟨rfl, HB.out⟩

set_option maxHeartbeats 1000000 in
set_option maxRecDepth 100000 in
theorem leq_no (p : Option Addr) (i j : Int) (w : World) (h : NoM w (.pointer p)) : Calls Try.prog 12 #[.pointer p, .int .i64 i, .int .i64 j] w fun e w' => e = .returned (.tuple #[.bool false, .int .i64 1]) ∧ Below w.heap.size w w' := by
  have HB : Hid (Below w.heap.size w (w.alloc (.cells #[.int .i64 i, .int .i64 j] 3))) := below_new _ _
  have HN : Hid (NoM (w.alloc (.cells #[.int .i64 i, .int .i64 j] 3)) (.pointer p)) := h.below HB.out
  clear h
  go_enter Try.func12, Try.ntmps12
  go_wp2_with fail
  refine (ocheck_no _ _ _ HN.out).mono ?_
  rintro e w1 ⟨rfl, rfl⟩
  go_wp2_with fail
  go_ret2
  exact ⟨rfl, HB.out⟩

set_option maxHeartbeats 1000000 in
set_option maxRecDepth 100000 in
theorem same_no (p : Option Addr) (i j : Int) (w : World) (h : NoM w (.pointer p)) : Calls Try.prog 18 #[.pointer p, .int .i64 i, .int .i64 j] w fun e w' => e = .returned (.tuple #[.bool false, .int .i64 1]) ∧ Below w.heap.size w w' := by
  have HB : Hid (Below w.heap.size w (w.alloc (.cells #[.int .i64 i, .int .i64 j] 3))) := below_new _ _
  have HN : Hid (NoM (w.alloc (.cells #[.int .i64 i, .int .i64 j] 3)) (.pointer p)) := h.below HB.out
  clear h
  go_enter Try.func18, Try.ntmps18
  go_wp2_with fail
  refine (ocheck_no _ _ _ HN.out).mono ?_
  rintro e w1 ⟨rfl, rfl⟩
  go_wp2_with fail
  go_ret2
  exact ⟨rfl, HB.out⟩

set_option maxHeartbeats 1000000 in
set_option maxRecDepth 100000 in
theorem classes_no (p : Option Addr) (w : World) (h : NoM w (.pointer p)) : Calls Try.prog 23 #[.pointer p] w fun e w' => e = .returned (.tuple #[.slice none 0 0, .int .i64 1]) ∧ Below w.heap.size w w' := by
  have HB : Hid (Below w.heap.size w w) := Below.refl _ _
  have HN : Hid (NoM w (.pointer p)) := h.below HB.out
  clear h
  go_enter Try.func23, Try.ntmps23
  go_wp2_with fail
  refine (ocheck_no _ _ _ HN.out).mono ?_
  rintro e w1 ⟨rfl, rfl⟩
  go_wp2_with fail
  go_ret2
  exact ⟨rfl, HB.out⟩

set_option maxHeartbeats 1000000 in
set_option maxRecDepth 100000 in
theorem context_no (p : Option Addr) (i j : Int) (w : World) (h : NoM w (.pointer p)) : Calls Try.prog 25 #[.pointer p, .int .i64 i, .int .i64 j] w fun e w' => e = .returned (.tuple #[.string ByteArray.empty, .string ByteArray.empty, .bool false, .int .i64 1]) ∧ Below w.heap.size w w' := by
  have HB : Hid (Below w.heap.size w (w.alloc (.cells #[.int .i64 i, .int .i64 j] 3))) := below_new _ _
  have HN : Hid (NoM (w.alloc (.cells #[.int .i64 i, .int .i64 j] 3)) (.pointer p)) := h.below HB.out
  clear h
  go_enter Try.func25, Try.ntmps25
  go_wp2_with fail
  refine (ocheck_no _ _ _ HN.out).mono ?_
  rintro e w1 ⟨rfl, rfl⟩
  go_wp2_with fail
  (try simp only [Exit.inBlock, Exit.then])
  refine bodyPost_ret (results_tuple4O rfl _ _ _) rfl ?_
  exact ⟨rfl, HB.out⟩

set_option maxHeartbeats 1000000 in
set_option maxRecDepth 100000 in
theorem apart_no (p : Option Addr) (i j : Int) (w : World) (h : NoM w (.pointer p)) : Calls Try.prog 26 #[.pointer p, .int .i64 i, .int .i64 j] w fun e w' => e = .returned (.tuple #[.string ByteArray.empty, .string ByteArray.empty, .bool false, .int .i64 1]) ∧ Below w.heap.size w w' := by
  have HB : Hid (Below w.heap.size w (w.alloc (.cells #[.int .i64 i, .int .i64 j] 3))) := below_new _ _
  have HN : Hid (NoM (w.alloc (.cells #[.int .i64 i, .int .i64 j] 3)) (.pointer p)) := h.below HB.out
  clear h
  go_enter Try.func26, Try.ntmps26
  go_wp2_with fail
  refine (ocheck_no _ _ _ HN.out).mono ?_
  rintro e w1 ⟨rfl, rfl⟩
  go_wp2_with fail
  (try simp only [Exit.inBlock, Exit.then])
  refine bodyPost_ret (results_tuple4O rfl _ _ _) rfl ?_
  exact ⟨rfl, HB.out⟩

set_option maxHeartbeats 1000000 in
set_option maxRecDepth 100000 in
theorem up_no (p : Option Addr) (i : Int) (w : World) (h : NoM w (.pointer p)) : Calls Try.prog 24 #[.pointer p, .int .i64 i] w fun e w' => e = .returned (.tuple #[.agg (cellsF fun _ => 0), .int .i64 1]) ∧ Below w.heap.size w w' := by
  obtain ⟨w1, hw1⟩ : ∃ w1, w1 = w.alloc (.cells #[.int .u64 0, .int .u64 0, .int .u64 0, .int .u64 0, .int .u64 0, .int .u64 0, .int .u64 0, .int .u64 0] 55) := ⟨_, rfl⟩
  have HW1 : Hid (w1 = w.alloc (.cells #[.int .u64 0, .int .u64 0, .int .u64 0, .int .u64 0, .int .u64 0, .int .u64 0, .int .u64 0, .int .u64 0] 55)) := hw1
  have hb1 : Below w.heap.size w w1 := by rw [hw1]; exact below_new _ _
  obtain ⟨w2, hw2⟩ : ∃ w2, w2 = w1.alloc (.cells #[.int .i64 i] 3) := ⟨_, rfl⟩
  have HW2 : Hid (w2 = w1.alloc (.cells #[.int .i64 i] 3)) := hw2
  have hb2 : Below w1.heap.size w1 w2 := by rw [hw2]; exact below_new _ _
  have HB : Hid (Below w.heap.size w w2) := go_on hb1 hb2
  have HN : Hid (NoM w2 (.pointer p)) := h.below HB.out
  have HC : Hid (Cells8 w2 w.heap.size (fun _ => 0)) := by
    have q := Cells8.last w (fun _ => 0)
    show Cells8 _ _ _
    exact (show Cells8 w1 w.heap.size (fun _ => 0) from by rw [hw1]; exact q).below hb2
  obtain ⟨c0, c1, c2, c3, c4, c5, c6, c7⟩ := HC.out.gets
  have f0 := HC.out.frozen 0
  have f1 := HC.out.frozen 1
  have f2 := HC.out.frozen 2
  have f3 := HC.out.frozen 3
  have f4 := HC.out.frozen 4
  have f5 := HC.out.frozen 5
  have f6 := HC.out.frozen 6
  have f7 := HC.out.frozen 7
  clear h hw1 hw2 hb1 hb2
  go_enter Try.func24, Try.ntmps24
  go_upto_region 1 with fail
  rw [← HW1.out]
  go_wp2_with fail
  rw [← HW2.out]
  refine (ocheck_no _ _ _ HN.out).mono ?_
  rintro e w3 ⟨rfl, rfl⟩
  go_wp2_with fail
  have HCC := (((((((HC.out.set (k := 0) 0 (by omega)).set (k := 1) 0 (by omega)).set (k := 2) 0 (by omega)).set (k := 3) 0 (by omega)).set (k := 4) 0 (by omega)).set (k := 5) 0 (by omega)).set (k := 6) 0 (by omega)).set (k := 7) 0 (by omega)
  have HCD := HCC.congr (g := fun _ => 0) (fun k _ => by split <;> (try rfl) <;> split <;> (try rfl) <;> split <;> (try rfl) <;> split <;> (try rfl) <;> split <;> (try rfl) <;> split <;> (try rfl) <;> split <;> (try rfl) <;> split <;> rfl)
  refine bodyPost_ret (results_set_tmp rfl rfl HCD) rfl ⟨rfl, ?_⟩
  exact (((((((HB.out.setCell (p := ⟨w.heap.size, 0, none⟩) (Nat.le_refl _) _).setCell (p := ⟨w.heap.size, 1, none⟩) (Nat.le_refl _) _).setCell (p := ⟨w.heap.size, 2, none⟩) (Nat.le_refl _) _).setCell (p := ⟨w.heap.size, 3, none⟩) (Nat.le_refl _) _).setCell (p := ⟨w.heap.size, 4, none⟩) (Nat.le_refl _) _).setCell (p := ⟨w.heap.size, 5, none⟩) (Nat.le_refl _) _).setCell (p := ⟨w.heap.size, 6, none⟩) (Nat.le_refl _) _).setCell (p := ⟨w.heap.size, 7, none⟩) (Nat.le_refl _) _

set_option maxHeartbeats 4000000 in
set_option maxRecDepth 100000 in
theorem none18_no (p : Option Addr) (w : World) (h : NoM w (.pointer p)) : Calls Try.prog 7 #[.pointer p] w fun e w' => e = .returned (.bool true) ∧ Below w.heap.size w w' := by
  have HX0 : Hid (NoM w (.pointer p)) := h
  have HB0 : Hid (Below w.heap.size w w) := Below.refl _ _
  clear h
  go_enter Try.func7, Try.ntmps7
  go_wp2_with fail
  refine (states_no p _ HX0.out).mono ?_
  rintro e w1 ⟨rfl, hb⟩
  have HB1 : Hid (Below w.heap.size w w1) := go_on HB0.out hb
  have HX1 : Hid (NoM w1 (.pointer p)) := HX0.out.below hb
  clear hb
  go_wp2_with fail
  refine (leq_no p 0 0 _ HX1.out).mono ?_
  rintro e w2 ⟨rfl, hb⟩
  have HB2 : Hid (Below w.heap.size w w2) := go_on HB1.out hb
  have HX2 : Hid (NoM w2 (.pointer p)) := HX1.out.below hb
  clear hb
  go_wp2_with fail
  refine (same_no p 0 0 _ HX2.out).mono ?_
  rintro e w3 ⟨rfl, hb⟩
  have HB3 : Hid (Below w.heap.size w w3) := go_on HB2.out hb
  have HX3 : Hid (NoM w3 (.pointer p)) := HX2.out.below hb
  clear hb
  go_wp2_with fail
  refine (up_no p 0 _ HX3.out).mono ?_
  rintro e w4 ⟨rfl, hb⟩
  have HB4 : Hid (Below w.heap.size w w4) := go_on HB3.out hb
  have HX4 : Hid (NoM w4 (.pointer p)) := HX3.out.below hb
  clear hb
  have hst := st_setNewO w4 (fun _ => 0)
  go_wp2_with fail
  clear hst
  obtain ⟨w4', hw4⟩ : ∃ w4', w4' = w4.alloc (.cells (cellsF fun _ => 0) 55) := ⟨_, rfl⟩
  rw [← hw4]
  have HB4' : Hid (Below w.heap.size w w4') := by show Below _ _ _; rw [hw4]; exact go_on HB4.out (below_new _ _)
  have HX4' : Hid (NoM w4' (.pointer p)) := by show NoM _ _; rw [hw4]; exact HX4.out.below (below_new _ _)
  clear hw4
  refine (classes_no p _ HX4'.out).mono ?_
  rintro e w5 ⟨rfl, hb⟩
  have HB5 : Hid (Below w.heap.size w w5) := go_on HB4'.out hb
  have HX5 : Hid (NoM w5 (.pointer p)) := HX4'.out.below hb
  clear hb
  go_wp2_with fail
  refine (context_no p 0 0 _ HX5.out).mono ?_
  rintro e w6 ⟨rfl, hb⟩
  have HB6 : Hid (Below w.heap.size w w6) := go_on HB5.out hb
  have HX6 : Hid (NoM w6 (.pointer p)) := HX5.out.below hb
  clear hb
  go_wp2_with fail
  refine (apart_no p 0 0 _ HX6.out).mono ?_
  rintro e w7 ⟨rfl, hb⟩
  have HB7 : Hid (Below w.heap.size w w7) := go_on HB6.out hb
  have HX7 : Hid (NoM w7 (.pointer p)) := HX6.out.below hb
  clear hb
  obtain ⟨v, hv⟩ : ∃ v, v = w7.alloc (.cells #[.int .i64 1, .int .i64 1, .int .i64 1, .int .i64 1, .int .i64 1, .int .i64 1, .int .i64 1] 42) := ⟨_, rfl⟩
  have HV : Hid (v = w7.alloc (.cells #[.int .i64 1, .int .i64 1, .int .i64 1, .int .i64 1, .int .i64 1, .int .i64 1, .int .i64 1] 42)) := hv
  have HL : Hid (v.heap[w7.heap.size]? = some (.cells #[.int .i64 1, .int .i64 1, .int .i64 1, .int .i64 1, .int .i64 1, .int .i64 1, .int .i64 1] 42 (0, 0))) := by show _ = _; rw [hv]; exact heap_last _ _
  have HB : Hid (Below w.heap.size w v) := by show Below _ _ _; rw [hv]; exact go_on HB7.out (below_new _ _)
  clear hv
  go_wp2_with fail
  rw [← HV.out]
  go_loopw [22] (fun vi wr => ∃ i : Nat, vi = .int .i64 i ∧ i ≤ 7 ∧ wr = v) (fun vi _ => 7 - (Go.RowKit.intOf vi).toNat)
  case atStart => exact ⟨0, rfl, by omega, rfl⟩
  case round =>
    obtain ⟨i, rfl, hi8, rfl⟩ := hrel
    by_cases hi : i < 7
    · have hiI : (i : Int) < 7 := by omega
      have hc : wr.cell? ⟨w7.heap.size, i, none⟩ = some (.int .i64 1) := by
        rw [cell_of_row _ _ _ _ _ _ HL.out]
        have : i = 0 ∨ i = 1 ∨ i = 2 ∨ i = 3 ∨ i = 4 ∨ i = 5 ∨ i = 6 := by omega
        rcases this with rfl | rfl | rfl | rfl | rfl | rfl | rfl <;> rfl
      go_wp2_with fail
      refine (num18_any 1 wr).mono ?_
      rintro e wq ⟨rfl, rfl⟩
      go_wp2_with fail
      go_roundw
      case rel => exact ⟨i + 1, by go_num, by omega, by trivial⟩
      case measure => simp [Go.RowKit.intOf]; omega
    · have hiI : ¬ (i : Int) < 7 := by omega
      go_wp2_with fail
      go_ret
      exact ⟨rfl, HB.out⟩

set_option maxHeartbeats 1000000 in
set_option maxRecDepth 100000 in
theorem at18_any {w : World} {ob : Nat} {A : Aut} {M : List (List Nat)} {N : List Nat} (h : MO w ob A M N) (i : Int) (hi : -9223372036854775808 ≤ i ∧ i ≤ 9223372036854775807) :
    Calls Try.prog 10 #[.pointer (some ⟨ob, 0, none⟩), .int .i64 i] w fun e w' => (∃ j : Nat, j < M.length ∧ e = .returned (.int .i64 (j : Nat))) ∧ Below w.heap.size w w' := by
  have hn1 := h.mon.pos
  have hn5 := h.mon.most
  have HM : Hid (MO w ob A M N) := h
  have HLT : Hid (∀ r : Int, 0 ≤ r → r < (M.length : Int) → ∃ j : Nat, j < M.length ∧ r = (j : Int)) := fun r h0 h1 => ⟨r.toNat, by omega, by omega⟩
  have HLN : Hid (∀ y, MO y ob A M N → Calls Try.prog 15 #[.pointer (some ⟨ob, 0, none⟩)] y fun e w' => e = .returned (.int .i64 (M.length : Nat)) ∧ y = w') := fun y hy => mlen_any hy
  obtain ⟨n, hn⟩ : ∃ n, M.length = n := ⟨_, rfl⟩
  rw [hn] at hn1 hn5 HLT HLN ⊢
  obtain ⟨r1, hr1⟩ : ∃ r1, i.tmod (n : Int) = r1 := ⟨_, rfl⟩
  have b1 : -(n : Int) < r1 ∧ r1 < (n : Int) := by
    rw [← hr1]
    have := Int.tmod_lt_of_pos i (show (0 : Int) < n by omega)
    have := Int.lt_tmod_of_pos i (show (0 : Int) < n by omega)
    exact ⟨by omega, by omega⟩
  obtain ⟨r2, hr2⟩ : ∃ r2, r1 + (n : Int) = r2 := ⟨_, rfl⟩
  obtain ⟨r3, hr3⟩ : ∃ r3, r2.tmod (n : Int) = r3 := ⟨_, rfl⟩
  have b3 : 0 ≤ r3 ∧ r3 < (n : Int) := by
    rw [← hr3]
    exact ⟨Int.tmod_nonneg _ (by omega), Int.tmod_lt_of_pos _ (by omega)⟩
  have HB3 : Hid (0 ≤ r3 ∧ r3 < (n : Int)) := b3
  have hw1 : IntKind.i64.wrap r1 = r1 := by rw [IntKind.wrap_i64]; omega
  have hw2 : IntKind.i64.wrap (r1 + (n : Int)) = r2 := by rw [IntKind.wrap_i64]; omega
  have hw3 : IntKind.i64.wrap r3 = r3 := by rw [IntKind.wrap_i64]; omega
  have hz : ¬ (n : Int) = 0 := by omega
  have hz1 : ((n : Int) == 0) = false := by rw [beq_eq_false_iff_ne]; omega
  have hz2 : ¬ n = 0 := by omega
  have hz3 : decide (n = 0) = false := decide_eq_false hz2
  have S0 : MO w.drew ob A M N := h.below (Below.refl _ _).drew
  clear h hn hr2 b1 b3 hi hn1 hn5
  go_enter Try.func10, Try.ntmps10
  go_wp2_with fail
  go_region_held3 (fun y => MO y ob A M N) (first | assumption | exact S0) (first
    | (go_at_call 15; refine (HLN.out _ (by assumption)).mono ?_; rintro e y1 ⟨rfl, rfl⟩))
  clear S0
  go_wp2_with fail
  go_ret
  obtain ⟨j, hj, rfl⟩ := HLT.out r3 HB3.out.1 HB3.out.2
  exact ⟨⟨j, hj, rfl⟩, (Below.refl _ _).drew⟩

theorem eq_MnilO (a : Addr) (w : World) : (binOp .eql 22 (.pointer (some a)) (.pointer none)).run Try.prog w = .ok (.bool false) w := by
  simp only [binOp]
  simp only [Op.equal, Op.maxDepth]
  rw [show (10000 : Nat) = 9999 + 1 from rfl, Op.equalIn]
  simp [Sem.run_bind, run_underlying Try.underlying22]

/-- What built answers. -/
def B18 (A : Aut) (w : World) (e : Ending) (w' : World) : Prop :=
  (bdE A ≠ 0 ∧ e = .returned (.tuple #[.pointer none, .bool false]) ∧ Below w.heap.size w w') ∨
  ∃ ob M N, e = .returned (.tuple #[.pointer (some ⟨ob, 0, none⟩), .bool true]) ∧ Good A ∧ A.ac.length ≤ 64 ∧ mEl A = some (M, N) ∧ MO w' ob A M N ∧ Below w.heap.size w w'

set_option maxHeartbeats 2000000 in
set_option maxRecDepth 100000 in
theorem built18_any (v : Value) (A : Aut) (w : World) (h : AR w v A) (hm : A.nx.length ≤ 9223372036854775806) (hm2 : A.ac.length ≤ 9223372036854775806) :
    Calls Try.prog 9 #[v] w (B18 A w) := by
  obtain ⟨an, cn, aa, ca, e, h1, h2⟩ := h.is
  have HBD : Hid (∀ w', Below w.heap.size w w' → Calls Try.prog 22 #[v] w' (BdA A w')) := fun w' hb => build_all v A w' (h.stay hb) hm hm2
  clear h h1 h2 hm hm2
  subst e
  obtain ⟨w0, hw0⟩ : ∃ w0, w0 = w.alloc (.cells #[.int .i64 A.k, .slice an A.nx.length cn, .slice aa A.ac.length ca] 26) := ⟨_, rfl⟩
  have HB0 : Hid (Below w.heap.size w w0) := by show Below _ _ _; rw [hw0]; exact below_new _ _
  have HW0 : Hid (w0 = w.alloc (.cells #[.int .i64 A.k, .slice an A.nx.length cn, .slice aa A.ac.length ca] 26)) := hw0
  clear hw0
  go_enter Try.func9, Try.ntmps9
  go_wp2_with fail
  rw [← HW0.out]
  refine (HBD.out _ HB0.out).mono ?_
  rintro e w1 (⟨hne, rfl, hb⟩ | ⟨ob, M, N, rfl, G, h64, hE, hmo, hb⟩)
  · have HB1 : Hid (Below w.heap.size w w1) := go_on HB0.out hb
    have HNE : Hid (bdE A ≠ 0) := hne
    obtain ⟨E, hEE⟩ : ∃ E, bdE A = E := ⟨_, rfl⟩
    rw [hEE] at hne ⊢
    have hq0 : (E == 0) = false := by rw [beq_eq_false_iff_ne]; exact hne
    have hqd : decide (E = 0) = false := decide_eq_false hne
    clear hb hEE
    go_wp2_with (go_at_call 14; refine (num18_any _ _).mono ?_; rintro e yn ⟨rfl, hyn⟩; subst yn)
    go_ret2
    exact .inl ⟨HNE.out, rfl, HB1.out⟩
  · have HB1 : Hid (Below w.heap.size w w1) := go_on HB0.out hb
    have HM1 : Hid (MO w1 ob A M N) := hmo
    have HOK : Hid (Good A ∧ A.ac.length ≤ 64 ∧ mEl A = some (M, N)) := ⟨G, h64, hE⟩
    have hnl := hmo.mon.pos
    have hp0 : (0 : Int) < M.length := by omega
    have heq := eq_MnilO ⟨ob, 0, none⟩
    clear hb hmo G h64 hE
    go_wp2_with (first | (go_at_call 14; refine (num18_any _ _).mono ?_; rintro e yn ⟨rfl, hyn⟩; subst yn) | (go_at_call 15; refine (mlen_any HM1.out).mono ?_; rintro e yn ⟨rfl, hyn⟩; subst yn))
    go_ret2
    exact .inr ⟨ob, M, N, rfl, HOK.out.1, HOK.out.2.1, HOK.out.2.2, HM1.out, HB1.out⟩

end Go.Proofs.Ytneiegbodnalbaa

namespace Go.Proofs.Ytneiegbodnalbaa
open Go Go.RowKit Go.Lib Go.Maps
set_option linter.unusedVariables false
attribute [-instance] List.instBEq instBEqProd

def I64 (x : Int) : Prop := -9223372036854775808 ≤ x ∧ x ≤ 9223372036854775807

theorem i64_of {n : Int} (h : (Lit.int .i64 n).wf = true) : I64 n := by
  simp [Lit.wf, IntKind.min, IntKind.max, IntKind.signed, IntKind.bits] at h
  exact ⟨by omega, by omega⟩

theorem LqO.refl {A : Aut} {M : List (List Nat)} {N : List Nat} (i : Nat) : LqO A M N i i := fun _ _ => Inc.refl _ _
theorem LqO.trans {A : Aut} {M : List (List Nat)} {N : List Nat} {i j k : Nat} (h : LqO A M N i j) (g : LqO A M N j k) : LqO A M N i k := fun p hp => (h p hp).trans (g p hp)
theorem LqO.left {A : Aut} {M : List (List Nat)} {N : List Nat} (h : Mon A M N) {i j k : Nat} (hi : i < M.length) (hj : j < M.length) (hk : k < M.length) (q : LqO A M N i j) : LqO A M N (Go.Proofs.Ytneiegbodnalbaa.pr A.k.toNat N k i) (Go.Proofs.Ytneiegbodnalbaa.pr A.k.toNat N k j) := fun p hp => by
  rw [← h.assoc hp hk hi, ← h.assoc hp hk hj]
  exact q _ (h.pr_lt hp hk)
theorem LqO.right {A : Aut} {M : List (List Nat)} {N : List Nat} (h : Mon A M N) {i j k : Nat} (hi : i < M.length) (hj : j < M.length) (hk : k < M.length) (q : LqO A M N i j) : LqO A M N (Go.Proofs.Ytneiegbodnalbaa.pr A.k.toNat N i k) (Go.Proofs.Ytneiegbodnalbaa.pr A.k.toNat N j k) := fun p hp => by
  rw [← h.assoc hp hi hk, ← h.assoc hp hj hk, stO_pr h (h.pr_lt hp hi) hk, stO_pr h (h.pr_lt hp hj) hk]
  exact (q p hp).run (h.lw k hk).1
theorem LqO.acc {A : Aut} {M : List (List Nat)} {N : List Nat} (h : Mon A M N) {i j : Nat} (hi : i < M.length) (hj : j < M.length) (q : LqO A M N i j) : acc A M i = true → acc A M j = true := by
  rw [acc_stO h hi, acc_stO h hj]
  have := (q 0 h.pos).eps
  rwa [h.one_pr hi, h.one_pr hj] at this
end Go.Proofs.Ytneiegbodnalbaa

namespace Go.Proofs.Ytneiegbodnalbaa
open Go Go.RowKit Go.Lib Go.Maps
set_option linter.unusedVariables false
attribute [-instance] List.instBEq instBEqProd

theorem leO_some {A : Aut} {M : List (List Nat)} {N : List Nat} {B : Nat → Nat → Bool} {T : Bool → Bool → Bool} {i j p q : Nat} (h : leO A M N B T i j = some (p, q)) : ahO A M N B i j = some p ∧ p < M.length ∧ q < M.length ∧ tlB A N T p i j q = true := by
  unfold leO at h
  cases ha : ahO A M N B i j with
  | none => rw [ha] at h; cases h
  | some r =>
    rw [ha] at h
    simp only at h
    cases hf : (List.range M.length).find? (tlB A N T r i j) with
    | none => rw [hf] at h; cases h
    | some s =>
      rw [hf] at h
      simp only [Option.some.injEq, Prod.mk.injEq] at h
      obtain ⟨rfl, rfl⟩ := h
      exact ⟨rfl, (mem_fsL.1 (List.mem_of_find?_eq_some ha)).1, by simpa using List.mem_of_find?_eq_some hf, List.find?_some hf⟩

theorem leO_none {A : Aut} {M : List (List Nat)} {N : List Nat} (h : Mon A M N) {B : Nat → Nat → Bool} {T : Bool → Bool → Bool} (hB : ∀ s t, s < A.ac.length → t < A.ac.length → B s t = true → ∃ u, Lt A.k.toNat u ∧ T (aN A (goN A s u)) (aN A (goN A t u)) = true) {i j : Nat} (hi : i < M.length) (hj : j < M.length) (hn : leO A M N B T i j = none) : (ahO A M N B i j).isNone = true := by
  unfold leO at hn
  cases ha : ahO A M N B i j with
  | none => rfl
  | some p =>
    rw [ha] at hn
    simp only at hn
    have hp := (mem_fsL.1 (List.mem_of_find?_eq_some ha)).1
    have hb := List.find?_some ha
    unfold apB at hb
    obtain ⟨u, hu, ht⟩ := hB _ _ (stO_lt h (h.pr_lt hp hi)) (stO_lt h (h.pr_lt hp hj)) hb
    have hq : mr A.k.toNat N 0 u < M.length := h.lt hu h.pos
    cases hf : (List.range M.length).find? (tlB A N T p i j) with
    | some s => rw [hf] at hn; cases hn
    | none =>
      have := List.find?_eq_none.1 hf (mr A.k.toNat N 0 u) (by simpa using hq)
      exfalso
      apply this
      unfold tlB
      rw [h.mr_pr (h.pr_lt hp hi) hu, h.mr_pr (h.pr_lt hp hj) hu, stO_mr h (h.pr_lt hp hi) hu, stO_mr h (h.pr_lt hp hj) hu]
      exact ht

theorem esc_word {A : Aut} {L : List Nat} (hv : AbV A L) (s t : Nat) (hs : s < A.ac.length) (ht : t < A.ac.length) (hb : escB L s t = true) : ∃ u, Lt A.k.toNat u ∧ tellE (aN A (goN A s u)) (aN A (goN A t u)) = true := by
  apply Classical.byContradiction
  intro q
  have : escB L s t = false := (escB_iff hv hs ht).2 fun u hu ha => by
    cases z : aN A (goN A t u) with
    | true => rfl
    | false => exact absurd ⟨u, hu, by unfold tellE; rw [ha, z]; rfl⟩ q
  rw [this] at hb
  cases hb
theorem unl_word {A : Aut} {L : List Nat} (hv : AbV A L) (s t : Nat) (hs : s < A.ac.length) (ht : t < A.ac.length) (hb : unlB L s t = true) : ∃ u, Lt A.k.toNat u ∧ tellU (aN A (goN A s u)) (aN A (goN A t u)) = true := by
  apply Classical.byContradiction
  intro q
  have hall : ∀ u, Lt A.k.toNat u → aN A (goN A s u) = aN A (goN A t u) := fun u hu => by
    apply Classical.byContradiction
    intro z
    exact q ⟨u, hu, by unfold tellU; rw [bne_iff_ne]; exact z⟩
  have : unlB L s t = false := (unlB_iff hv hs ht).2 ⟨fun u hu ha => by rw [← hall u hu]; exact ha, fun u hu ha => by rw [hall u hu]; exact ha⟩
  rw [this] at hb
  cases hb

/-- Is the word of p, x and q accepted? -/
theorem st3 {A : Aut} {M : List (List Nat)} {N : List Nat} (h : Mon A M N) {p x q : Nat} (hp : p < M.length) (hx : x < M.length) (hq : q < M.length) : stO A N (Go.Proofs.Ytneiegbodnalbaa.pr A.k.toNat N (Go.Proofs.Ytneiegbodnalbaa.pr A.k.toNat N p x) q) = goN A 0 (Go.Proofs.Ytneiegbodnalbaa.lw A.k.toNat N p ++ Go.Proofs.Ytneiegbodnalbaa.lw A.k.toNat N x ++ Go.Proofs.Ytneiegbodnalbaa.lw A.k.toNat N q) := by
  rw [stO_pr h (h.pr_lt hp hx) hq, stO_pr h hp hx, goN_app, goN_app]
  rfl

theorem wbs {A : Aut} {M : List (List Nat)} {N : List Nat} (h : Mon A M N) {x : Nat} (hx : x < M.length) : (wb (Go.Proofs.Ytneiegbodnalbaa.lw A.k.toNat N x)).size ≤ 512 ∧ Lts A.k (wb (Go.Proofs.Ytneiegbodnalbaa.lw A.k.toNat N x)) ∧ chk A.k (wb (Go.Proofs.Ytneiegbodnalbaa.lw A.k.toNat N x)) = 0 ∧ lets (wb (Go.Proofs.Ytneiegbodnalbaa.lw A.k.toNat N x)) = Go.Proofs.Ytneiegbodnalbaa.lw A.k.toNat N x := by
  have l := (h.lw x hx).1
  have w := wb_lts h.G.k1 h.G.k8 l
  refine ⟨?_, w.1, w.2, lets_wb h.G.ks.2.1 l⟩
  rw [wb_size]
  have := lw_len h.fst x hx
  have := h.most
  omega

end Go.Proofs.Ytneiegbodnalbaa
