import Derived.Test.YtlnhnpfgmiffpaaG6
import Derived.Test.YtlnhnpfgmiffpaaG11
section
namespace Go.Proofs.Ytlnhnpfgmiffpaa
open Go.RowKit Go.Maps
set_option linter.unusedVariables false
set_option linter.unusedSimpArgs false
attribute [local go_sem ↓] Go.wp_at_zero Go.wp_at_succ

/-- the same in the columns of a mask, below an arity? -/
def fitsAt (M : Nat) (a x : List Int) (i : Nat) : Bool := !M.testBit i || decide (a.getD i 0 = x.getD i 0)
def fitsB (M n : Nat) (a x : List Int) : Bool := (List.range n).all (fitsAt M a x)
theorem fitsB_no {M n k : Nat} {a x : List Int} (hk : k < n) (h1 : M.testBit k = true) (h2 : a.getD k 0 ≠ x.getD k 0) : fitsB M n a x = false := by
  unfold fitsB
  rw [List.all_eq_false]
  refine ⟨k, List.mem_range.2 hk, ?_⟩
  simp [fitsAt, h1]
  simpa using h2
theorem fits_next {M k : Nat} {a x : List Int} (h : (List.range k).all (fitsAt M a x) = true) (h1 : M.testBit k = true → a.getD k 0 = x.getD k 0) : (List.range (k + 1)).all (fitsAt M a x) = true := by
  rw [List.range_succ, List.all_append, h]
  cases e : M.testBit k with
  | false => simp [fitsAt, e]
  | true => simp only [List.all_cons, List.all_nil, Bool.and_true, Bool.true_and, fitsAt, e, h1 e, decide_true, Bool.or_true]
theorem wrap_divM (a b : Nat) (ha : a < 4294967296) : IntKind.u32.wrap ((a : Int) / (b : Int)) = ((a / b : Nat) : Int) := by
  have h2 : a / b < 4294967296 := Nat.lt_of_le_of_lt (Nat.div_le_self _ _) ha
  rw [← Int.natCast_ediv]
  generalize a / b = q at h2
  rw [show IntKind.u32.wrap (q : Int) = (q : Int) % 4294967296 by simp [IntKind.wrap, IntKind.bits, IntKind.signed]]
  omega
set_option maxHeartbeats 1600000 in
set_option maxRecDepth 100000 in
theorem rfits_any (x y : List Int) (hx : RowOk x) (hy : RowOk y) (M : Nat) (hM : M < 4294967296) (n : Nat) (hn : n ≤ 24) (w : World) : Calls Try.prog 46 #[rowV x, rowV y, .int .u32 (M : Int), .int .i64 (n : Int)] w fun e w' => e = .returned (.bool (fitsB M n x y)) ∧ Below w.heap.size w w' := by
  have HB := Lib.hid (((Below.refl w.heap.size w).alloc (Nat.le_refl _) (.cells (rowC x) 40)).alloc (by simp) (.cells (rowC y) 40))
  have HX : Hid (RowAt ((w.alloc (.cells (rowC x) 40)).alloc (.cells (rowC y) 40)) w.heap.size x) := (rowAt_new w x).below (belowA _)
  have HY : Hid (RowAt ((w.alloc (.cells (rowC x) 40)).alloc (.cells (rowC y) 40)) (w.heap.size + 1) y) := by
    have := rowAt_new (w.alloc (.cells (rowC x) 40)) y
    simp only [World.size_alloc] at this
    exact this
  have hlx := hx.len
  have hly := hy.len
  clear hx hy
  unfold rowV
  go_enter Try.func46, Try.ntmps46
  go_upto_region 1 with fail
  generalize (w.alloc (.cells (rowC x) 40)).alloc (.cells (rowC y) 40) = W at HB HX HY ⊢
  go_wp2
  go_loopw [9, 10] (fun bv iv wr => ∃ (k b : Nat), k ≤ n ∧ iv = .int .i64 k ∧ bv = .int .u32 (b : Int) ∧ Hid (b = 2 ^ k) ∧ Hid (Below W.heap.size W wr) ∧ Hid ((List.range k).all (fitsAt M x y) = true)) (fun _ iv _ => n - (intOf iv).toNat)
  case atStart => exact ⟨0, 1, Nat.zero_le _, rfl, rfl, rfl, Below.refl _ _, rfl⟩
  case round =>
    obtain ⟨k, b, hk, rfl, rfl, HBT, HBW, HA⟩ := hrel
    by_cases hlt : k < n
    · have hlt' : (k : Int) < (n : Int) := by omega
      have hk24 : (k : Int) < 24 := by omega
      have hk0 : (0 : Int) ≤ (k : Int) := by omega
      have g1 := RowAt.cellF (HX.out.below HBW.out) hlx (k := k) (by omega)
      have g2 := RowAt.cellF (HY.out.below HBW.out) hly (k := k) (by omega)
      have hble : b ≤ 8388608 := by rw [HBT.out]; exact Nat.le_trans (Nat.pow_le_pow_right (by omega) (show k ≤ 23 by omega)) (by decide)
      have hb1 : 1 ≤ b := by rw [HBT.out]; exact Nat.one_le_two_pow
      have hbn : ((b : Int) == 0) = false := by simp; omega
      have hb0 : ¬ (b : Int) = 0 := by omega
      have HTB : Hid (M.testBit k = decide (M / b % 2 = 1)) := by show _ = _; rw [HBT.out, Nat.testBit_eq_decide_div_mod_eq]
      have hbz : ¬ b = 0 := by omega
      have hq1 := wrap_divM M b hM
      have hq2 := (Int.ofNat_tmod (M / b) 2).symm
      have hw : IntKind.u32.wrap (2 * (b : Int)) = 2 * (b : Int) := by
        rw [show IntKind.u32.wrap (2 * (b : Int)) = (2 * (b : Int)) % 4294967296 by simp [IntKind.wrap, IntKind.bits, IntKind.signed]]
        omega
      have HB3 : Hid (2 * b = 2 ^ (k + 1)) := by show _ = _; rw [HBT.out, Nat.pow_succ]; omega
      generalize M / b = d at hq1 hq2 HTB
      clear hbn HBT
      by_cases ht : d % 2 = 1
      · rw [ht] at hq2
        have hq3 : (d : Int).tmod 2 = 1 := hq2
        clear hq2
        have HT1 : Hid (M.testBit k = true) := by show _ = _; rw [HTB.out]; simpa using ht
        clear HTB ht
        have HN1 := Lib.hid (fun h2 => fitsB_no (a := x) (x := y) hlt HT1.out h2)
        have HN2 := Lib.hid (fun h2 => fits_next (a := x) (x := y) HA.out (fun _ => h2))
        generalize x.getD k 0 = p at g1 HN1 HN2
        generalize y.getD k 0 = q at g2 HN1 HN2
        by_cases he : p = q
        · have hb : (p != q) = false := by simpa using he
          have HN := Lib.hid (HN2.out he)
          clear HN1 HN2 he
          go_wp2_with fail
          go_quiet (fail)
          go_wp2
          go_roundw
          case rel => exact ⟨k + 1, 2 * b, by omega, by go_num, by simp, HB3, below_drewV HBW.out _, HN⟩
          case measure => simp [intOf]; omega
        · have hb : (p != q) = true := by simpa using he
          have HN := Lib.hid (HN1.out he)
          clear HN1 HN2 he
          go_wp2_with fail
          go_quiet (fail)
          go_wp2
          go_ret
          exact ⟨by rw [HN.out]; rfl, HB.out.trans ((below_drewV HBW.out _).mono HB.out.size)⟩
      · rw [show d % 2 = 0 by omega] at hq2
        have hq3 : (d : Int).tmod 2 = 0 := hq2
        clear hq2
        have HT1 : Hid (M.testBit k = false) := by show _ = _; rw [HTB.out]; simpa using ht
        clear HTB ht
        have HN := Lib.hid (fits_next (a := x) (x := y) HA.out (fun e => by rw [HT1.out] at e; cases e))
        go_wp2_with fail
        go_quiet (fail)
        go_wp2
        go_roundw
        case rel => exact ⟨k + 1, 2 * b, by omega, by go_num, by simp, HB3, below_drewV HBW.out _, HN⟩
        case measure => simp [intOf]; omega
    · obtain rfl : k = n := by omega
      have HF : Hid (fitsB M k x y = true) := HA.out
      go_wp2
      go_ret
      exact ⟨by rw [HF.out]; rfl, HB.out.trans (HBW.out.mono HB.out.size)⟩
end Go.Proofs.Ytlnhnpfgmiffpaa
end
section
namespace Go.Proofs.Ytlnhnpfgmiffpaa
open Go.RowKit Go.Maps
set_option linter.unusedVariables false
set_option linter.unusedSimpArgs false
attribute [local go_sem ↓] Go.wp_at_zero Go.wp_at_succ

def selF (M n : Nat) (rows : List (List Int)) (x : List Int) (k : Nat) : List Nat := (List.range k).filter (fun i : Nat => fitsB M n (rows.getD i []) x)
theorem selF_in {M n : Nat} {rows : List (List Int)} {x : List Int} {k : Nat} (h : fitsB M n (rows.getD k []) x = true) : selF M n rows x (k + 1) = selF M n rows x k ++ [k] := by
  simp only [selF, List.range_succ, List.filter_append]
  have e : List.filter (fun i : Nat => fitsB M n (rows.getD i []) x) [k] = [k] := by
    rw [List.filter_cons, if_pos h]
    rfl
  rw [e]
theorem selF_out {M n : Nat} {rows : List (List Int)} {x : List Int} {k : Nat} (h : fitsB M n (rows.getD k []) x = false) : selF M n rows x (k + 1) = selF M n rows x k := by
  simp only [selF, List.range_succ, List.filter_append]
  have e : List.filter (fun i : Nat => fitsB M n (rows.getD i []) x) [k] = [] := by
    rw [List.filter_cons, if_neg (by rw [h]; decide)]
    rfl
  rw [e, List.append_nil]
theorem selF_len (M n : Nat) (rows : List (List Int)) (x : List Int) (k : Nat) : (selF M n rows x k).length ≤ k :=
  Nat.le_trans (List.length_filter_le _ _) (by simp)
def intC (i : Nat) : Value := .int .i64 (i : Int)
theorem infoI : (Try.prog.info? 3).map (fun i => (i.zero, i.size, i.bytes)) = some (some (.int .i64 0), 1, 8) := by kernel_rfl
theorem push_int {w0 wr : World} {B : Nat} {o : Value} {l : List Nat} (own : wr.ownsRow B 3 1 o l.length (l.map intC)) (bel : Below B w0 wr) (hB : B ≤ wr.heap.size) (x : Nat) (hl : l.length + 1 ≤ 1000000000) (ty : TypeId) :
    ∃ a c w3, (Builtin.append_ #[65, 65] ty #[o, .slice (some ⟨wr.heap.size, 0, none⟩) 1 1]).run Try.prog (wr.alloc (.cells #[.int .i64 (x : Int)] 3)) = .ok (.slice a (l ++ [x]).length c) w3 ∧ w3.ownsRow B 3 1 (.slice a (l ++ [x]).length c) (l ++ [x]).length ((l ++ [x]).map intC) ∧ Below B w0 w3 := by
  obtain ⟨i0, hi0, hz0, hz1, hz2⟩ := info_parts infoI
  have hb := belowA (w := wr) (.cells #[.int .i64 (x : Int)] 3)
  obtain ⟨v', w', h1, h2, h3, _, h5⟩ := run_append_own_at (P := Try.prog) _ B 65 ty 3 i0 _ 1 8 Try.underlying65 hi0 hz0 hz1 hz2 rfl (by decide) o l.length (l.map intC) (own_below own hb) ⟨wr.heap.size, 0, none⟩ 1 1 [intC x] (by simp) (fun j u hu => lit_news wr _ 3 j u (by simpa [intC] using hu)) (fun u hu => by rw [List.mem_singleton.1 hu]; rfl) (by unfold maxLen; omega) (by omega) (Nat.le_trans hB hb.size)
  have e : l.length + 1 = (l ++ [x]).length := by simp
  have e2 : l.map intC ++ [intC x] = (l ++ [x]).map intC := by simp
  rw [e, e2] at h2
  obtain ⟨a, c, rfl, _⟩ := own_form h2
  exact ⟨a, c, w', h1, h2, (bel.trans (hb.mono hB)).grown h3 (Nat.le_trans hB hb.size) (fun j hj => ((own_below own hb).lt j hj).1)⟩
attribute [-go_sem] loadVar Builtin.append_
set_option maxHeartbeats 3200000 in
set_option maxRecDepth 100000 in
theorem rselect_any {w : World} {B p : Nat} {sv : Value} {rows : List (List Int)} {n : Nat} {tk : Int} (h : Rf w B p sv rows (n : Int) tk) (hn : n ≤ 24) (hlen : rows.length ≤ 100000000) (M : Nat) (hM : M < 4294967296) (x : List Int) (hx : RowOk x) : Calls Try.prog 26 #[.pointer (some ⟨p, 0, none⟩), .int .u32 (M : Int), rowV x] w fun e w' => ∃ a c, e = .returned (.slice a (selF M n rows x rows.length).length c) ∧ w'.ownsRow w.heap.size 3 1 (.slice a (selF M n rows x rows.length).length c) (selF M n rows x rows.length).length ((selF M n rows x rows.length).map intC) ∧ Below w.heap.size w w' := by
  have HB := Lib.hid (belowA (w := w) (.cells (rowC x) 40))
  have HA := Lib.hid (rowAt_new w x)
  have HR := Lib.hid (h.keep HB.out)
  have HX := Lib.hid hx
  have hzW : w.heap.size ≤ (w.alloc (.cells (rowC x) 40)).heap.size := by simp
  clear h hx
  unfold rowV
  go_enter Try.func26, Try.ntmps26
  go_upto_region 1 with fail
  generalize w.alloc (.cells (rowC x) 40) = W at HB HA HR hzW ⊢
  obtain ⟨ao, co, rfl, _⟩ := own_form HR.out.own
  go_wp2
  go_loopw [7, 8] (fun lv iv wr => ∃ (k : Nat) (a : Option Addr) (c : Nat), k ≤ rows.length ∧ iv = .int .i64 k ∧ lv = .slice a (selF M n rows x k).length c ∧ Hid (Below W.heap.size W wr ∧ wr.ownsRow W.heap.size 3 1 (.slice a (selF M n rows x k).length c) (selF M n rows x k).length ((selF M n rows x k).map intC))) (fun _ iv _ => rows.length - (intOf iv).toNat)
  case atStart => exact ⟨0, none, 0, Nat.zero_le _, rfl, rfl, Below.refl _ _, World.ownsRow_nil _ _ _ _⟩
  case round =>
    obtain ⟨k, a, c, hk, rfl, rfl, HI⟩ := hrel
    have HT := Lib.hid (rlen_yes (HR.out.keep HI.out.1))
    by_cases hlt : k < rows.length
    · have hlt' : (k : Int) < (rows.length : Int) := by omega
      have hk0 : (0 : Int) ≤ (k : Int) := by omega
      obtain ⟨g, rfl⟩ := own_some HR.out.own (by omega)
      go_wp2_with fail
      refine HT.out.mono ?_
      rintro e w1 ⟨rfl, rfl⟩
      clear HT
      have hd := HI.out.1.drew
      have hget : rows[k]? = some (rows.getD k []) := by rw [List.getD, List.getElem?_eq_getElem hlt]; rfl
      have hro := HR.out.ok _ (List.mem_of_getElem? hget)
      have l0 := run_loadRows ((HR.out.keep hd).rl.at (j := 2) rfl)
      have l1 := run_loadInt ((HR.out.keep hd).rl.at (j := 1) rfl)
      have l2 := run_loadRow (HA.out.below hd) HX.out.len
      have l3 := run_loadAtRow rfl (HR.out.keep hd).own (fun x hx => (HR.out.ok x hx).len) hget
      have HF := fun u => Lib.hid (rfits_any (rows.getD k []) x hro HX.out M hM n hn u)
      have HIN := Lib.hid (fun h => selF_in (M := M) (n := n) (rows := rows) (x := x) (k := k) h)
      have HOUT := Lib.hid (fun h => selF_out (M := M) (n := n) (rows := rows) (x := x) (k := k) h)
      have hkl := selF_len M n rows x k
      unfold rowV at l2 l3 HF
      generalize fitsB M n (rows.getD k []) x = fb at HF HIN HOUT
      clear hget hro hd
      generalize rows.getD k [] = rk at l3 HF
      go_upto_region 5 with fail
      go_region_law (
        refine step_call rfl 46 Try.func46 (by kernel_rfl) (by kernel_rfl) #[.tmp 21, .tmp 22, .tmp 23, .tmp 27] _ rfl #[.agg (List.map cellI rk).toArray, .agg (List.map cellI x).toArray, .int .u32 (M : Int), .int .i64 (n : Int)] (by simp [Act.eval, Act.put]) (HF _).out ?_
        rintro ee w2 ⟨rfl, b2⟩
        refine ⟨_, rfl, ?_⟩
        have HI2 : Hid (Below W.heap.size W w2 ∧ w2.ownsRow W.heap.size 3 1 (.slice a (selF M n rows x k).length c) (selF M n rows x k).length ((selF M n rows x k).map intC)) := ⟨HI.out.1.drew.trans (b2.mono HI.out.1.drew.size), own_below (own_below HI.out.2 (Below.refl _ _).drew) b2⟩
        clear b2)
      all_goals
        clear l0 l1 l2 l3 HF HI
        cases fb with
        | false =>
          have e := HOUT.out rfl
          have HE := Lib.hid e
          clear e HIN HOUT
          go_wp2
          go_roundw
          case rel => exact ⟨k + 1, a, c, by omega, by go_num, by rw [HE.out], by rw [HE.out]; exact HI2⟩
          case measure => simp [intOf]; omega
        | true =>
          have e := HIN.out rfl
          obtain ⟨a2, c2, w4, ra, own4, b4⟩ := push_int HI2.out.2 HI2.out.1 HI2.out.1.size k (by omega) 65
          rw [← e] at ra own4
          have HN : Hid (Below W.heap.size W w4 ∧ w4.ownsRow W.heap.size 3 1 (.slice a2 (selF M n rows x (k + 1)).length c2) (selF M n rows x (k + 1)).length ((selF M n rows x (k + 1)).map intC)) := ⟨b4, own4⟩
          clear e HIN HOUT own4 b4
          go_wp2
          go_roundw
          case rel => exact ⟨k + 1, a2, c2, by omega, by go_num, rfl, HN⟩
          case measure => simp [intOf]; omega
    · obtain rfl : k = rows.length := by omega
      go_wp2_with fail
      refine HT.out.mono ?_
      rintro e w1 ⟨rfl, rfl⟩
      clear HT
      go_wp2
      go_ret
      exact ⟨a, c, rfl, own_lowR HI.out.2 hzW, HB.out.trans (HI.out.1.mono HB.out.size)⟩
end Go.Proofs.Ytlnhnpfgmiffpaa
end
section
namespace Go.Proofs.Ytlnhnpfgmiffpaa
open Go.RowKit Go.Maps
set_option linter.unusedVariables false
set_option linter.unusedSimpArgs false

/-! the program's Select tells what the reference's tells -/
theorem bits_and32 (a b : Nat) (ha : a < 4294967296) (hb : b < 4294967296) : bits .and .u32 (a : Int) (b : Int) = ((a &&& b : Nat) : Int) := by
  have hx : a &&& b < 2 ^ 32 := Nat.and_lt_two_pow _ (by omega)
  have h1 : (BitVec.ofInt 32 (a : Int)).toNat = a := by
    rw [BitVec.ofInt_natCast, BitVec.toNat_ofNat]; exact Nat.mod_eq_of_lt (by omega)
  have h2 : (BitVec.ofInt 32 (b : Int)).toNat = b := by
    rw [BitVec.ofInt_natCast, BitVec.toNat_ofNat]; exact Nat.mod_eq_of_lt (by omega)
  show IntKind.u32.wrap ((BitVec.ofInt 32 (a : Int) &&& BitVec.ofInt 32 (b : Int)).toNat : Int) = _
  rw [BitVec.toNat_and, h1, h2]
  simp only [IntKind.wrap, IntKind.signed, IntKind.bits, Bool.false_and, Bool.false_eq_true, if_false]
  omega
theorem and_pow (M k : Nat) : M &&& 2 ^ k = if M.testBit k = true then 2 ^ k else 0 := by
  apply Nat.eq_of_testBit_eq
  intro i
  rw [Nat.testBit_and, Nat.testBit_two_pow]
  by_cases h : k = i
  · subst h
    cases hb : M.testBit k
    · simp
    · simp
  · have hd : decide (k = i) = false := decide_eq_false h
    rw [hd, Bool.and_false]
    split
    · rw [Nat.testBit_two_pow, hd]
    · simp
theorem offB_bit (M k : Nat) (hM : M < 4294967296) (hk : k < 24) : offB (M : Int) k = !M.testBit k := by
  have h2 : (2 : Nat) ^ k < 4294967296 := Nat.lt_of_lt_of_le (Nat.pow_lt_pow_right (by omega) hk) (by decide)
  have e0 : (2 : Int) ^ k = ((2 ^ k : Nat) : Int) := by rw [Int.natCast_pow]; rfl
  have e : ((2 : Int) ^ k % 4294967296) = ((2 ^ k : Nat) : Int) := by
    rw [e0]
    exact Int.emod_eq_of_lt (Int.natCast_nonneg _) (Int.ofNat_lt.2 h2)
  unfold offB
  rw [e, bits_and32 M (2 ^ k) hM h2, and_pow]
  cases M.testBit k
  · rfl
  · have hp : (2 : Nat) ^ k ≠ 0 := by have := Nat.two_pow_pos k; omega
    rw [if_pos rfl]
    rw [Bool.not_true, beq_eq_false_iff_ne]
    omega
theorem bits_low (M n : Nat) (hM : M < 4294967296) (hn : n ≤ 24) : bits .and .u32 (M : Int) (2 ^ n - 1) = ((M &&& (2 ^ n - 1) : Nat) : Int) := by
  have h1 : 2 ^ n - 1 < 4294967296 := Nat.lt_of_lt_of_le (Nat.sub_lt (Nat.two_pow_pos n) (by omega)) (Nat.le_trans (Nat.pow_le_pow_right (by omega) hn) (by decide))
  have e : ((2 : Int) ^ n - 1) = ((2 ^ n - 1 : Nat) : Int) := by
    have := Nat.two_pow_pos n
    rw [Int.natCast_sub (by omega), Int.natCast_pow]
    rfl
  rw [e]
  exact bits_and32 M _ hM h1
theorem under_fits (M n : Nat) (hM : M < 4294967296) (hn : n ≤ 24) {y x : List Int} (hy : y.length = 24) (hx : x.length = 24) : (underL (bits .and .u32 (M : Int) (2 ^ n - 1)) y = underL (bits .and .u32 (M : Int) (2 ^ n - 1)) x) ↔ fitsB M n y x = true := by
  have hlt : M &&& (2 ^ n - 1) < 4294967296 := Nat.lt_of_le_of_lt Nat.and_le_left hM
  rw [bits_low M n hM hn, underL_eq hx hy]
  have hg : ∀ k, k < 24 → (y[k]? = x[k]? ↔ y.getD k 0 = x.getD k 0) := fun k hk => by
    rw [List.getD, List.getD, List.getElem?_eq_getElem (by omega), List.getElem?_eq_getElem (by omega)]
    simp
  have hb : ∀ k, k < 24 → offB ((M &&& (2 ^ n - 1) : Nat) : Int) k = !(M.testBit k && decide (k < n)) := fun k hk => by
    rw [offB_bit _ k hlt hk, Nat.testBit_and, Nat.testBit_two_pow_sub_one]
  unfold fitsB
  rw [List.all_eq_true]
  constructor
  · intro h k hk
    have hk' := List.mem_range.1 hk
    rcases h k (by omega) with h | h
    · rw [hb k (by omega)] at h
      have : M.testBit k = false := by simpa [hk'] using h
      simp [fitsAt, this]
    · have := (hg k (by omega)).1 h
      unfold fitsAt
      rw [decide_eq_true this, Bool.or_true]
  · intro h k hk
    rw [hb k hk, hg k hk]
    by_cases hkn : k < n
    · have := h k (List.mem_range.2 hkn)
      unfold fitsAt at this
      rcases Bool.or_eq_true_iff.1 this with h1 | h1
      · left
        rw [Bool.not_eq_true'] at h1
        rw [h1]
        rfl
      · exact .inr (of_decide_eq_true h1)
    · left
      simp [hkn]
theorem sel_same (M n : Nat) (hM : M < 4294967296) (hn : n ≤ 24) {rows : List (List Int)} {x : List Int} (hr : ∀ r ∈ rows, RowOk r) (hx : x.length = 24) : selN (bits .and .u32 (M : Int) (2 ^ n - 1)) rows (underL (bits .and .u32 (M : Int) (2 ^ n - 1)) x) rows.length = selF M n rows x rows.length := by
  unfold selN selF
  apply List.filter_congr
  intro i hi
  have hi' := List.mem_range.1 hi
  have hl : (rows.getD i []).length = 24 := by
    rw [List.getD, List.getElem?_eq_getElem hi']
    exact (hr _ (List.getElem_mem hi')).len
  have h := under_fits M n hM hn hl hx
  cases hf : fitsB M n (rows.getD i []) x with
  | true => exact decide_eq_true (h.2 hf)
  | false => exact decide_eq_false (fun e => by rw [h.1 e] at hf; cases hf)
end Go.Proofs.Ytlnhnpfgmiffpaa
end
