/- trans: OfWord. -/
import Derived.Test.YtihjhkbbpphocaaAi
import Derived.Test.YtihjhkbbpphocaaJg
namespace Go.Proofs.Ytihjhkbbpphocaa
open Go Go.RowKit Go.Lib
set_option linter.unusedVariables false

/-- What a word does to an automaton's states. -/
noncomputable def doW (A : Aut) (b : ByteArray) : List Nat := tb (fun s => goN A s (lets b)) A.ac.length
theorem doW_len (A : Aut) (b : ByteArray) : (doW A b).length = A.ac.length := tb_len _ _
/-- What OfWord answers. -/
noncomputable def owE (A : Aut) (b : ByteArray) : Int := if chkA A = 0 then if 64 < A.ac.length then 81 else chk A.k b else 80
noncomputable def owV (A : Aut) (b : ByteArray) : Value := if owE A b = 0 then .tuple #[trL (doW A b), .int .i64 0] else .tuple #[trZ, .int .i64 (owE A b)]
structure OwAt (w wr : World) (A : Aut) (an aa : Option Addr) (cn ca : Nat) (o : Nat) (f : Nat → Nat) : Prop where
  box : RowAt wr w.heap.size #[.int .i64 A.k, .slice an A.nx.length cn, .slice aa A.ac.length ca]
  res : TrAt wr (w.heap.size + 1) 0 (fun _ => 0)
  out : MvAt wr o A.ac.length f
  below : Below w.heap.size w wr
theorem OwAt.stay {w wr y : World} {A : Aut} {an aa : Option Addr} {cn ca o : Nat} {f : Nat → Nat} (h : OwAt w wr A an aa cn ca o f) (hb : Below wr.heap.size wr y) : OwAt w y A an aa cn ca o f :=
  ⟨h.box.stay hb, h.res.of (hb.block _ h.res.lt), h.out.of (hb.block _ h.out.lt), h.below.trans (hb.mono h.below.size)⟩
theorem goW_lt {A : Aut} (G : Good A) {s : Nat} (hs : s < A.ac.length) {b : ByteArray} (hb : chk A.k b = 0) : goN A s (lets b) < A.ac.length := goN_lt G hs _ (chk_all hb).lt_all
theorem rowAt_keep {w w' : World} {b : Nat} {arr : Array Value} (r : RowAt w b arr) (hl : w.heap.size ≤ w'.heap.size) (e : w'.heap[b]? = w.heap[b]?) : RowAt w' b arr := ⟨Nat.lt_of_lt_of_le r.lt hl, fun o => by rw [World.cell?_of_block e]; exact r.cell o⟩

set_option maxHeartbeats 4000000 in
set_option maxRecDepth 100000 in
theorem ofWord_any (v : Value) (A : Aut) (w : World) (h : AR w v A) (hm : A.nx.length ≤ 9223372036854775806) (hm2 : A.ac.length ≤ 9223372036854775806) (b : ByteArray) (hz : b.size ≤ 9223372036854775807) :
    Calls Try.prog 27 #[v, .string b] w fun e w' => e = .returned (owV A b) ∧ Below w.heap.size w w' := by
  obtain ⟨an, cn, aa, ca, e, h1, h2⟩ := h.is
  have HA : Hid (∀ w', Below w.heap.size w w' → AR w' v A) := fun w' hb => h.stay hb
  clear h h1 h2
  subst e
  have HR0 : Hid (RowAt ((w.alloc (.cells #[.int .i64 A.k, .slice an A.nx.length cn, .slice aa A.ac.length ca] 58)).alloc (.cells #[.int .i64 0, .int .u64 0, .int .u64 0, .int .u64 0, .int .u64 0, .int .u64 0, .int .u64 0, .int .u64 0] 26)) w.heap.size #[.int .i64 A.k, .slice an A.nx.length cn, .slice aa A.ac.length ca]) := (RowAt.last _ _ _).stay (below_new _ _)
  have HZ0 : Hid (TrAt ((w.alloc (.cells #[.int .i64 A.k, .slice an A.nx.length cn, .slice aa A.ac.length ca] 58)).alloc (.cells #[.int .i64 0, .int .u64 0, .int .u64 0, .int .u64 0, .int .u64 0, .int .u64 0, .int .u64 0, .int .u64 0] 26)) (w.heap.size + 1) 0 (fun _ => 0)) := tr_z2 _ _
  have HB0 : Hid (Below w.heap.size w ((w.alloc (.cells #[.int .i64 A.k, .slice an A.nx.length cn, .slice aa A.ac.length ca] 58)).alloc (.cells #[.int .i64 0, .int .u64 0, .int .u64 0, .int .u64 0, .int .u64 0, .int .u64 0, .int .u64 0, .int .u64 0] 26))) := ((Below.refl _ _).alloc (Nat.le_refl _) _).alloc (by simp) _
  go_enter Try.func27, Try.ntmps27
  go_wp2_with fail
  refine (acheck_any _ A _ (HA.out _ HB0.out) hm hm2).mono ?_
  rintro e w1 ⟨rfl, hB1⟩
  have HR1 : Hid (RowAt w1 w.heap.size #[.int .i64 A.k, .slice an A.nx.length cn, .slice aa A.ac.length ca]) := HR0.out.stay hB1
  have HZ1 : Hid (TrAt w1 (w.heap.size + 1) 0 (fun _ => 0)) := HZ0.out.of (hB1.block _ HZ0.out.lt)
  have HB1 : Hid (Below w.heap.size w w1) := HB0.out.trans (hB1.mono (by simp <;> omega))
  clear hB1 HR0 HZ0 HB0
  by_cases hG : Good A
  · have hck : chkA A = 0 := by unfold chkA; rw [if_pos hG]
    have HCK : Hid (chkA A = 0) := hck
    rw [hck]
    clear hck
    have hbx := HR1.out.cell
    by_cases hbig : 64 < A.ac.length
    · have HE : Hid (owV A b = .tuple #[trZ, .int .i64 81]) := by
        show owV A b = _
        have e : owE A b = 81 := by unfold owE; rw [if_pos HCK.out, if_pos hbig]
        unfold owV
        rw [e, if_neg (by decide)]
      have hI : (64 : Int) < A.ac.length := by omega
      obtain ⟨c0, c1, c2, c3, c4, c5, c6, c7⟩ := (HZ1.out).gets
      have f0 := (HZ1.out).frozen 0
      have f1 := (HZ1.out).frozen 1
      have f2 := (HZ1.out).frozen 2
      have f3 := (HZ1.out).frozen 3
      have f4 := (HZ1.out).frozen 4
      have f5 := (HZ1.out).frozen 5
      have f6 := (HZ1.out).frozen 6
      have f7 := (HZ1.out).frozen 7
      go_wp2_with fail
      rw [HE.out]
      exact bodyPost_ret (results_tr_tmp rfl rfl (put8_at HZ1.out)) rfl ⟨rfl, put8_below HB1.out (by omega)⟩
    · have hI : ¬ (64 : Int) < A.ac.length := by omega
      have hzv := Try.zero_mv
      have hne := mvC_ne 0 fun _ => 0
      have hsz := mvC_size 0 fun _ => 0
      have hst := st_mvNew w1 A.ac.length
      have HO0 : Hid (OwAt w (w1.alloc (.cells (mvC A.ac.length fun _ => 0) 79)) A an aa cn ca w1.heap.size (upto (fun s => goN A s (lets b)) 0)) := by
        refine ⟨HR1.out.stay (below_new _ _), HZ1.out.of (heap_allo HZ1.out.lt _), (mv_last _ _ _).congr (fun i _ => (upto_zero _ i).symm), HB1.out.alloc HB1.out.size _⟩
      have HS1 : Hid (w.heap.size + 1 < w1.heap.size) := HZ1.out.lt
      go_wp2_with fail
      clear hst hzv hne hsz hbx HR1 HZ1 HB1
      have hpos : 1 ≤ A.ac.length := by have := hG.n1; omega
      by_cases hc : chk A.k b = 0
      · have HE : Hid (owV A b = .tuple #[trL (doW A b), .int .i64 0]) := by
          show owV A b = _
          have e : owE A b = 0 := by unfold owE; rw [if_pos HCK.out, if_neg hbig, hc]
          unfold owV
          rw [if_pos e]
        have HCB : Hid (chk A.k b = 0) := hc
        have HGd : Hid (Good A) := hG
        clear hc hG
        go_loopw [27, 9, 10, 11] (fun vi _ _ _ wr => ∃ i : Nat, vi = .int .i64 i ∧ i ≤ A.ac.length ∧ OwAt w wr A an aa cn ca w1.heap.size (upto (fun s => goN A s (lets b)) i)) (fun vi _ _ _ _ => A.ac.length - (intOf vi).toNat)
        case atStart => exact ⟨0, rfl, Nat.zero_le _, HO0.out⟩
        case round =>
          clear HO0
          obtain ⟨i, rfl, hin, hF⟩ := hrel
          have HF : Hid (OwAt w wr A an aa cn ca w1.heap.size (upto (fun s => goN A s (lets b)) i)) := hF
          by_cases hlt : i < A.ac.length
          · have hiI : (i : Int) < A.ac.length := by omega
            have hi64 : (i : Int) < 64 := by omega
            have hbx := hF.box.cell
            have hrn : runE A i b = 0 ∧ runV A i b = (goN A i (lets b) : Int) := by
              have e : runE A i b = 0 := by rw [runE_in HCK.out (by omega)]; exact HCB.out
              exact ⟨e, by unfold runV; rw [if_pos e, Int.toNat_natCast]⟩
            have hd := goW_lt HGd.out hlt HCB.out
            clear hF
            go_wp2_with fail
            refine (run_any _ A _ (HA.out _ HF.out.below) hm hm2 (i : Int) b hz).mono ?_
            rw [hrn.1, hrn.2]
            rintro e y1 ⟨rfl, hy1⟩
            have hF1 := HF.out.stay hy1
            have hw8 := u8_in (a := goN A i (lets b)) (by omega)
            have hfz := hF1.out.frozen (1 + i)
            have hcl := hF1.out.cell' (i := i) (by omega)
            have HN : Hid (OwAt w (y1.setCell ⟨w1.heap.size, 1 + i, none⟩ (.int .u8 (goN A i (lets b) : Nat))) A an aa cn ca w1.heap.size (upto (fun s => goN A s (lets b)) (i + 1))) := by
              refine ⟨rowAt_keep hF1.box (by simp [World.setCell]) (heap_set_oth (by have := HS1.out; omega)), hF1.res.of (heap_set_oth (by have := HS1.out; omega)), ?_, hF1.below.setCell (p := ⟨w1.heap.size, 1 + i, none⟩) (by have := HS1.out; show w.heap.size ≤ w1.heap.size; omega) _⟩
              rw [← upto_succ]
              exact hF1.out.set' _ (by omega)
            obtain ⟨d, hdE⟩ : ∃ d, goN A i (lets b) = d := ⟨_, rfl⟩
            rw [hdE] at hw8 HN
            rw [hdE]
            clear hy1 hF1 hrn hdE hbx hd
            go_wp2_with fail
            go_roundw
            case rel => exact ⟨i + 1, by go_num, by omega, HN.out⟩
            case measure => simp [intOf]; omega
          · have hiI : ¬ (i : Int) < A.ac.length := by omega
            have HI : Hid (i = A.ac.length) := by show i = _; omega
            clear hF
            go_wp2_with (refine wpList_load_row rfl 79 _ rfl (w1.heap.size) rfl 79 (mvC A.ac.length (upto (fun s => goN A s (lets b)) i)) (0, 0) _ (HF.out.out) Try.underlying79 rfl (inf_mv _ _) ?_)
            refine (pack_any A.ac.length (upto (fun s => goN A s (lets b)) i) (by omega) (fun j hj => by
              unfold upto
              split
              · have := goW_lt HGd.out hj HCB.out; show goN A j (lets b) < 64; omega
              · decide) wr).mono ?_
            rintro e y1 ⟨rfl, hy1⟩
            have HZ3 : Hid (TrAt y1 (w.heap.size + 1) 0 (fun _ => 0)) := (HF.out.stay hy1).res
            have HB3 : Hid (Below w.heap.size w y1) := (HF.out.stay hy1).below
            have hs := st_tr (M := (A.ac.length : Int)) (g := pk (upto (fun s => goN A s (lets b)) i) A.ac.length) HZ3.out
            clear hy1
            unfold trV
            go_wp2_with fail
            rw [HE.out]
            refine bodyPost_ret (results_tr_tmp rfl rfl HZ3.out.row) rfl ⟨?_, below_row HB3.out (by omega)⟩
            have e : trV A.ac.length (pk (upto (fun s => goN A s (lets b)) i) A.ac.length) = trL (doW A b) := by
              unfold trL trV
              rw [doW_len]
              refine congrArg Value.agg (trC_congr ?_)
              intro k _
              apply pk_congr
              intro j hj
              unfold upto doW
              rw [if_pos (by rw [HI.out]; exact hj), tb_im _ hj]
            rw [← e]
            rfl
      · have hrn : runE A 0 b = chk A.k b ∧ runV A 0 b = 0 := by
          have e : runE A 0 b = chk A.k b := runE_in HCK.out (by omega) b
          exact ⟨e, by unfold runV; rw [if_neg (by rw [e]; exact hc)]⟩
        have HE : Hid (owV A b = .tuple #[trZ, .int .i64 (chk A.k b)]) := by
          show owV A b = _
          have e : owE A b = chk A.k b := by unfold owE; rw [if_pos HCK.out, if_neg hbig]
          unfold owV
          rw [e, if_neg hc]
        have hcn : (chk A.k b != 0) = true := by rw [bne_iff_ne]; exact hc
        have hposI : (0 : Int) < A.ac.length := by omega
        have hbx := HO0.out.box.cell
        obtain ⟨q, hq⟩ : ∃ q, chk A.k b = q := ⟨_, rfl⟩
        rw [hq] at hrn HE hcn hc
        clear hq
        go_loopw [27, 9, 10, 11] (fun vi _ _ _ wr => vi = .int .i64 0 ∧ OwAt w wr A an aa cn ca w1.heap.size (upto (fun s => goN A s (lets b)) 0)) (fun _ _ _ _ _ => 0)
        case atStart => exact ⟨rfl, HO0.out⟩
        case round =>
          clear HO0 hbx
          obtain ⟨rfl, hF⟩ := hrel
          have HF : Hid (OwAt w wr A an aa cn ca w1.heap.size (upto (fun s => goN A s (lets b)) 0)) := hF
          have hbx := hF.box.cell
          clear hF
          go_wp2_with fail
          refine (run_any _ A _ (HA.out _ HF.out.below) hm hm2 0 b hz).mono ?_
          rw [hrn.1, hrn.2]
          rintro e y1 ⟨rfl, hy1⟩
          have HF1 : Hid (OwAt w y1 A an aa cn ca w1.heap.size (upto (fun s => goN A s (lets b)) 0)) := HF.out.stay hy1
          clear hy1 hrn hbx
          obtain ⟨c0, c1, c2, c3, c4, c5, c6, c7⟩ := (HF1.out.res).gets
          have f0 := (HF1.out.res).frozen 0
          have f1 := (HF1.out.res).frozen 1
          have f2 := (HF1.out.res).frozen 2
          have f3 := (HF1.out.res).frozen 3
          have f4 := (HF1.out.res).frozen 4
          have f5 := (HF1.out.res).frozen 5
          have f6 := (HF1.out.res).frozen 6
          have f7 := (HF1.out.res).frozen 7
          go_wp2_with fail
          rw [HE.out]
          exact bodyPost_ret (results_tr_tmp rfl rfl (put8_at HF1.out.res)) rfl ⟨rfl, put8_below HF1.out.below (by omega)⟩
  · have hck : chkA A = 80 := by unfold chkA; rw [if_neg hG]
    have HE : Hid (owV A b = .tuple #[trZ, .int .i64 80]) := by
      show owV A b = _
      have e : owE A b = 80 := by unfold owE; rw [if_neg (by rw [hck]; decide)]
      unfold owV
      rw [e, if_neg (by decide)]
    rw [hck]
    obtain ⟨c0, c1, c2, c3, c4, c5, c6, c7⟩ := (HZ1.out).gets
    have f0 := (HZ1.out).frozen 0
    have f1 := (HZ1.out).frozen 1
    have f2 := (HZ1.out).frozen 2
    have f3 := (HZ1.out).frozen 3
    have f4 := (HZ1.out).frozen 4
    have f5 := (HZ1.out).frozen 5
    have f6 := (HZ1.out).frozen 6
    have f7 := (HZ1.out).frozen 7
    clear hck
    go_wp2_with fail
    rw [HE.out]
    exact bodyPost_ret (results_tr_tmp rfl rfl (put8_at HZ1.out)) rfl ⟨rfl, put8_below HB1.out (by omega)⟩

end Go.Proofs.Ytihjhkbbpphocaa
