import Derived.Test.YteabclfhmapabaaDoorA24
import Derived.Shelf.Spec.TrailingZeros
import Derived.RangeFuncNested
import Derived.RangeFuncBound
import Derived.RangeFuncCalls
import Derived.RangeFuncLeaves
import Derived.Shelf.Abstract
import Derived.WalkKit
import Derived.OwnWalkIn
import Derived.TacticsInMore
import Derived.LoopNIn
import Derived.LoopIn
import Derived.Lib.Hide
section
namespace Go.Proofs.YteabclfhmapabaaDoor
open Go.RowKit Go.Maps Go.Shelf
set_option linter.unusedVariables false
set_option linter.unusedSimpArgs false

/-! what PlanGives asks, of right steps -/
theorem vsT_ok : ∀ (ts : List T) (out : List ByteArray) (n : ByteArray), (∀ m ∈ out, m ≠ noS ∧ m ≠ blankS) → n ∈ vsT out ts → n ≠ noS ∧ n ≠ blankS
  | [], out, n, h, hn => h n hn
  | t :: ts, out, n, h, hn => by
    rw [vsT] at hn
    split at hn
    · exact vsT_ok ts out n h hn
    · next hc =>
      refine vsT_ok ts _ n (fun m hm => ?_) hn
      rcases List.mem_append.1 hm with h1 | h1
      · exact h m h1
      · obtain rfl := List.mem_singleton.1 h1
        exact ⟨fun e => hc (Or.inl e), fun e => hc (Or.inr (Or.inl e))⟩
theorem mem_vsT {ts : List T} {n : ByteArray} : n ∈ vsT [] ts ↔ n ≠ noS ∧ n ≠ blankS ∧ ∃ t ∈ ts, t.v = n := by
  constructor
  · intro h
    have h1 := vsT_ok ts [] n (fun m hm => by cases hm) h
    rcases vsT_mem _ _ _ h with h2 | h2
    · cases h2
    · exact ⟨h1.1, h1.2, h2⟩
  · rintro ⟨h1, h2, t, ht, rfl⟩
    exact vsT_has _ _ t ht h1 h2
theorem vsT_sub {ts us : List T} (h : ∀ t ∈ ts, t ∈ us) : ∀ n ∈ vsT [] ts, n ∈ vsT [] us := fun n hn => by
  obtain ⟨h1, h2, t, ht, e⟩ := mem_vsT.1 hn
  exact mem_vsT.2 ⟨h1, h2, t, h t ht, e⟩
theorem lackL_all {ss l : List ByteArray} : ∀ n ∈ l, n ∈ ss ++ lackL ss l := fun n hn => by
  rw [List.mem_append]
  by_cases h : n ∈ ss
  · exact .inl h
  · refine .inr (List.mem_filter.2 ⟨hn, ?_⟩)
    have : inB ss n = false := Bool.eq_false_iff.2 (fun hh => h (inB_iff.1 hh))
    rw [this]
    rfl
theorem lackL_none {ss l : List ByteArray} (h : (lackL ss l).length = 0) : ∀ n ∈ l, n ∈ ss := fun n hn => by
  have h1 := lackL_all (ss := ss) n hn
  rw [List.eq_nil_of_length_eq_zero h, List.append_nil] at h1
  exact h1
theorem noE_vars {d : Nat} {e : E} (h : noE e = true) : ∀ t ∈ termsD d e, t.v = noS := by
  unfold noE at h
  simp only [Bool.and_eq_true, decide_eq_true_eq] at h
  intro t ht
  cases d with
  | zero => cases ht
  | succ d =>
    rw [termsD_succ, List.eq_nil_of_length_eq_zero h.2.2] at ht
    obtain rfl := List.mem_singleton.1 ht
    rw [h.2.1]
    rfl
theorem mem_termsL {d : Nat} {x : Lit4} {t : T} : t ∈ termsL d x ↔ t ∈ x.ts ∨ t ∈ termsD d x.l ∨ t ∈ termsD d x.r := by
  unfold termsL
  rw [List.mem_append, List.mem_append]
/-- a step that is to be taken gives what its literal has and is not known -/
structure GivM (d : Nat) (ss : List ByteArray) (x : Lit4) (s : St) : Prop where
  all : ∀ n ∈ vsT [] (termsL d x), n ∈ ss ++ s.g
  own : ∀ n ∈ s.g, n ∈ vsT [] (termsL d x)
  new : NewL ss s.g
  no : x.k = 2 → s.g = []
theorem stM_gives {d : Nat} {ss : List ByteArray} {x : Lit4} {k : Nat} (hx : litB x = true) (hk : ((stM d ss x k).k != 0) = true) : GivM d ss x (stM d ss x k) := by
  have hnew := stM_new d ss x k
  unfold litB at hx
  by_cases h1 : x.k = 1
  · rw [if_pos (Or.inl h1)] at hx
    simp only [Bool.and_eq_true] at hx
    have hv : ∀ n, n ∈ vsT [] (termsL d x) ↔ n ∈ vsT [] x.ts := fun n => by
      constructor
      · intro h
        obtain ⟨a1, a2, t, ht, e⟩ := mem_vsT.1 h
        rcases mem_termsL.1 ht with h3 | h3 | h3
        · exact mem_vsT.2 ⟨a1, a2, t, h3, e⟩
        · exact absurd (e.symm.trans (noE_vars hx.2.2.1 t h3)) a1
        · exact absurd (e.symm.trans (noE_vars hx.2.2.2 t h3)) a1
      · exact fun h => vsT_sub (fun t ht => mem_termsL.2 (.inl ht)) n h
    have hg : (stM d ss x k).g = lackL ss (vsT [] x.ts) := by
      unfold stM
      rw [if_pos h1]
    refine ⟨fun n hn => ?_, fun n hn => ?_, hnew, fun h => ?_⟩
    · rw [hg]
      exact lackL_all n ((hv n).1 hn)
    · rw [hg] at hn
      exact (hv n).2 (List.mem_filter.1 hn).1
    · rw [h1] at h
      cases h
  · by_cases h2 : x.k = 2
    · rw [if_pos (Or.inr h2)] at hx
      simp only [Bool.and_eq_true] at hx
      have hg : (stM d ss x k).g = [] := by
        unfold stM
        rw [if_neg h1, if_pos h2]
      have hl : (lackL ss (vsT [] x.ts)).length = 0 := by
        apply Decidable.byContradiction
        intro h
        unfold stM at hk
        rw [if_neg h1, if_pos h2, if_neg h] at hk
        cases hk
      refine ⟨fun n hn => ?_, fun n hn => ?_, hnew, fun _ => hg⟩
      · rw [hg, List.append_nil]
        obtain ⟨a1, a2, t, ht, e⟩ := mem_vsT.1 hn
        rcases mem_termsL.1 ht with h3 | h3 | h3
        · exact lackL_none hl n (mem_vsT.2 ⟨a1, a2, t, h3, e⟩)
        · exact absurd (e.symm.trans (noE_vars hx.2.2.1 t h3)) a1
        · exact absurd (e.symm.trans (noE_vars hx.2.2.2 t h3)) a1
      · rw [hg] at hn
        cases hn
    · rw [if_neg (by rintro (h | h); exact h1 h; exact h2 h)] at hx
      split at hx
      · simp only [Bool.and_eq_true, decide_eq_true_eq] at hx
        have hts : x.ts = [] := List.eq_nil_of_length_eq_zero hx.2.1
        have hg : (stM d ss x k).g = (cmpM x (lackL ss (vsT [] (termsD d x.l))) (lackL ss (vsT [] (termsD d x.r)))).2 := by
          unfold stM
          rw [if_neg h1, if_neg h2]
        have hkk : ((cmpM x (lackL ss (vsT [] (termsD d x.l))) (lackL ss (vsT [] (termsD d x.r)))).1 != 0) = true := by
          unfold stM at hk
          rw [if_neg h1, if_neg h2] at hk
          exact hk
        have hL : ∀ n ∈ vsT [] (termsD d x.l), n ∈ vsT [] (termsL d x) := vsT_sub (fun t ht => mem_termsL.2 (.inr (.inl ht)))
        have hR : ∀ n ∈ vsT [] (termsD d x.r), n ∈ vsT [] (termsL d x) := vsT_sub (fun t ht => mem_termsL.2 (.inr (.inr ht)))
        have hA : ∀ n ∈ vsT [] (termsL d x), n ∈ vsT [] (termsD d x.l) ∨ n ∈ vsT [] (termsD d x.r) := fun n hn => by
          obtain ⟨a1, a2, t, ht, e⟩ := mem_vsT.1 hn
          rcases mem_termsL.1 ht with h3 | h3 | h3
          · rw [hts] at h3
            cases h3
          · exact .inl (mem_vsT.2 ⟨a1, a2, t, h3, e⟩)
          · exact .inr (mem_vsT.2 ⟨a1, a2, t, h3, e⟩)
        have key : (∀ n ∈ vsT [] (termsD d x.l), n ∈ ss ++ (stM d ss x k).g) ∧ (∀ n ∈ vsT [] (termsD d x.r), n ∈ ss ++ (stM d ss x k).g) ∧ ∀ n ∈ (stM d ss x k).g, n ∈ vsT [] (termsD d x.l) ∨ n ∈ vsT [] (termsD d x.r) := by
          rw [hg]
          generalize hPA : lackL ss (vsT [] (termsD d x.l)) = PA at hkk ⊢
          generalize hPB : lackL ss (vsT [] (termsD d x.r)) = PB at hkk ⊢
          unfold cmpM at hkk ⊢
          by_cases c1 : PA.length = 0 ∧ PB.length = 0
          · rw [if_pos c1]
            refine ⟨fun n hn => ?_, fun n hn => ?_, fun n hn => by cases hn⟩
            · exact List.mem_append.2 (.inl (lackL_none (by rw [hPA]; exact c1.1) n hn))
            · exact List.mem_append.2 (.inl (lackL_none (by rw [hPB]; exact c1.2) n hn))
          · rw [if_neg c1] at hkk ⊢
            by_cases c2 : x.rel ≠ 1
            · rw [if_pos c2] at hkk
              cases hkk
            · rw [if_neg c2] at hkk ⊢
              by_cases c3 : PB.length = 0 ∧ x.l.op = 0
              · rw [if_pos c3]
                refine ⟨fun n hn => ?_, fun n hn => ?_, fun n hn => ?_⟩
                · rw [← hPA]
                  exact lackL_all n hn
                · exact List.mem_append.2 (.inl (lackL_none (by rw [hPB]; exact c3.1) n hn))
                · rw [← hPA] at hn
                  exact .inl (List.mem_filter.1 hn).1
              · rw [if_neg c3] at hkk ⊢
                by_cases c4 : PA.length = 0 ∧ x.r.op = 0
                · rw [if_pos c4]
                  refine ⟨fun n hn => ?_, fun n hn => ?_, fun n hn => ?_⟩
                  · exact List.mem_append.2 (.inl (lackL_none (by rw [hPA]; exact c4.1) n hn))
                  · rw [← hPB]
                    exact lackL_all n hn
                  · rw [← hPB] at hn
                    exact .inr (List.mem_filter.1 hn).1
                · rw [if_neg c4] at hkk
                  cases hkk
        refine ⟨fun n hn => ?_, fun n hn => ?_, hnew, fun h => absurd h h2⟩
        · rcases hA n hn with h | h
          · exact key.1 n h
          · exact key.2.1 n h
        · rcases key.2.2 n hn with h | h
          · exact hL n h
          · exact hR n h
      · cases hx
theorem sameSt_eq {s t : St} (h : sameSt s t = true) : s = t := by
  obtain ⟨k, i, m, g⟩ := s
  obtain ⟨k2, i2, m2, g2⟩ := t
  unfold sameSt at h
  simp only [Bool.and_eq_true, decide_eq_true_eq] at h
  obtain ⟨rfl, rfl, rfl, rfl⟩ := h
  rfl
theorem clrN_bit {left k i : Nat} (hi : i < 32) (hk : k < 32) : (clrN left k).testBit i = (left.testBit i && !decide (k = i)) := by
  have hp : (2 : Nat) ^ k < 2 ^ 32 := Nat.pow_lt_pow_right (by decide) hk
  unfold clrN
  rw [Nat.testBit_and, show (4294967295 : Nat) - 2 ^ k = 2 ^ 32 - (2 ^ k + 1) by omega, Nat.testBit_two_pow_sub_succ hp, Nat.testBit_two_pow]
  simp [hi]
/-- of the literals that are taken all variables are known -/
def TakM (d : Nat) (l : List XL) (ss : List ByteArray) (left : Nat) : Prop := ∀ i, i < l.length → left.testBit i = false → ∀ n ∈ vsT [] (termsL d (atL l i).x), n ∈ ss
theorem okW_out {d : Nat} {l : List XL} {ss : List ByteArray} {left : Nat} {s : St} (hl : left < 2 ^ l.length) (h : okW d l ss left s = true) : ∃ k : Nat, s.i = (k : Int) ∧ k < l.length ∧ left.testBit k = true ∧ ((stL d ss l k).k != 0) = true ∧ s = stL d ss l k := by
  unfold okW at h
  rw [Bool.and_eq_true, Bool.and_eq_true] at h
  obtain ⟨h1, h2, h3⟩ := h
  obtain ⟨h4, h5⟩ := hasB_lt hl h1
  obtain ⟨k, hk⟩ : ∃ k : Nat, s.i = (k : Int) := ⟨s.i.toNat, by omega⟩
  rw [hk, Int.toNat_natCast] at h2 h3 h5
  unfold hasB at h1
  rw [hk, Int.toNat_natCast] at h1
  simp only [Bool.and_eq_true] at h1
  exact ⟨k, hk, h5, h1.2, h2, sameSt_eq h3⟩
theorem takM_step {d : Nat} {l : List XL} {ss : List ByteArray} {left k : Nat} (hn : l.length ≤ 16) (hx : l.all (fun y => litB y.x) = true) (hk : k < l.length) (hz : ((stL d ss l k).k != 0) = true) (h : TakM d l ss left) : TakM d l (ss ++ (stL d ss l k).g) (clrN left k) := by
  intro i hi hb n hv
  rw [clrN_bit (by omega) (by omega)] at hb
  by_cases hik : k = i
  · subst hik
    have hlx : litB (atL l k).x = true := by
      rw [List.all_eq_true] at hx
      rw [atL_eq hk]
      exact hx _ (List.getElem_mem hk)
    exact (stM_gives hlx hz).all n hv
  · rw [decide_eq_false hik, Bool.not_false, Bool.and_true] at hb
    exact List.mem_append.2 (.inl (h i hi hb n hv))
theorem foldN_memG : ∀ (l out : List ByteArray) (x : ByteArray), x ∈ l.foldl addN out → x ∈ out ∨ x ∈ l
  | [], out, x, h => .inl h
  | n :: l, out, x, h => by
    rw [List.foldl_cons] at h
    rcases foldN_memG l _ x h with h1 | h1
    · unfold addN at h1
      split at h1
      · exact .inl h1
      · rcases List.mem_append.1 h1 with h2 | h2
        · exact .inl h2
        · obtain rfl := List.mem_singleton.1 h2
          exact .inr (by simp)
    · exact .inr (List.mem_cons_of_mem _ h1)
theorem itQ_inG (qs : List Qn) {all : List ByteArray} (hq : ∀ x ∈ loneL qs, x ∈ all) : ∀ (k : Nat) (fs : List ByteArray), (∀ x ∈ fs, x ∈ all) → fs.Nodup → (∀ x ∈ itQ qs k fs, x ∈ all) ∧ (itQ qs k fs).Nodup
  | 0, fs, h, hn => ⟨h, hn⟩
  | k + 1, fs, h, hn => by
    obtain ⟨h1, h2⟩ := itQ_inG qs hq k fs h hn
    rw [itQ_succ]
    exact ⟨rndQ_in qs _ all h1 hq, rndQ_nodup qs _ h2⟩
end Go.Proofs.YteabclfhmapabaaDoor
end
section
namespace Go.Proofs.YteabclfhmapabaaDoor
open Go.RowKit Go.Maps Go.Shelf
set_option linter.unusedVariables false
set_option linter.unusedSimpArgs false
attribute [local go_sem ↓] Go.wp_at_zero Go.wp_at_succ
attribute [-go_sem] loadVar

end Go.Proofs.YteabclfhmapabaaDoor
end
section
namespace Go.Proofs.YteabclfhmapabaaDoor
open Go.RowKit Go.Maps
set_option linter.unusedVariables false
set_option linter.unusedSimpArgs false
attribute [local go_sem ↓] Go.wp_at_zero Go.wp_at_succ

/-- the table of the bits' places lies at its place -/
structure DT (w : World) : Prop where
  lt : 1 < w.heap.size
  cell : ∀ i : Nat, i < 32 → w.cell? ⟨1, i, none⟩ = some (.int .u8 (Lib.deBruijn32tab.getD i 0))
theorem DT.below {w w' : World} (t : DT w) (h : Below w.heap.size w w') : DT w' :=
  ⟨Nat.lt_of_lt_of_le t.lt h.size, fun i hi => by rw [h.cell (p := ⟨_, i, none⟩) t.lt]; exact t.cell i hi⟩
set_option maxHeartbeats 1600000 in
theorem tz_core (x k idx : Nat) (w : World) (hz : ((x : Int) == 0) = false) (key : bits BinOp.and IntKind.u32 (x : Int) (-(x : Int) % 4294967296) * 125613361 % 4294967296 / 134217728 = (idx : Int)) (hi : idx < 32) (hk : k < 32) (hcell : w.cell? ⟨1, idx, none⟩ = some (.int .u8 k)) :
    Calls Tryd.prog 73 #[.int .u32 (x : Int)] w fun e w' => e = .returned (.int .i64 (k : Int)) ∧ w' = w := by
  go_enter Tryd.func73, Tryd.ntmps73
  go_wp2_with (simp only [key])
  go_ret
  exact ⟨rfl, rfl⟩
theorem tz_any {x : Nat} (hx0 : x ≠ 0) (hx : x < 4294967296) (w : World) (h : DT w) :
    Calls Tryd.prog 73 #[.int .u32 (x : Int)] w fun e w' => e = .returned (.int .i64 (Lib.ctz 32 x : Int)) ∧ w' = w := by
  obtain ⟨hlow, hk⟩ := Lib.lowest_bit 32 x hx0 hx
  obtain ⟨hi, htab⟩ := Lib.deBruijn32_at _ hk
  have hcell := h.cell _ hi
  rw [htab] at hcell
  exact tz_core x _ _ w (by rw [beq_eq_false_iff_ne]; omega) (tz32_key x _ hx hx0 hlow) hi hk hcell
/-- the bits that are set, rising -/
def bitsL (M : Nat) : List Nat := (List.range 32).filter (fun i => M.testBit i)
theorem low_bits {M : Nat} (h0 : M ≠ 0) (hM : M < 4294967296) : M.testBit (Lib.ctz 32 M) = true ∧ Lib.ctz 32 M < 32 ∧ (∀ i, i < Lib.ctz 32 M → M.testBit i = false) ∧ ∀ i, (M - 1).testBit i = if i < Lib.ctz 32 M then true else if i = Lib.ctz 32 M then false else M.testBit i := by
  obtain ⟨m, hm, hk⟩ := Lib.ctzFrom_spec 32 M (by omega) hM
  have e : Lib.ctz 32 M = Lib.ctzFrom 32 M := by simp [Lib.ctz, h0]
  rw [e]
  generalize Lib.ctzFrom 32 M = k at hm hk
  have hp : 0 < 2 ^ k := Nat.two_pow_pos k
  have e1 : M = 2 ^ k * (2 * m + 1) + 0 := by omega
  have e2 : M - 1 = 2 ^ k * (2 * m) + (2 ^ k - 1) := by
    rw [hm, Nat.mul_add, Nat.mul_one]
    omega
  have b1 : ∀ i, M.testBit i = if i < k then false else (2 * m + 1).testBit (i - k) := fun i => by
    rw [e1, Nat.testBit_two_pow_mul_add _ hp]
    simp
  have b2 : ∀ i, (M - 1).testBit i = if i < k then true else (2 * m).testBit (i - k) := fun i => by
    rw [e2, Nat.testBit_two_pow_mul_add _ (by omega)]
    split
    · next h => rw [Nat.testBit_two_pow_sub_one]; exact decide_eq_true h
    · rfl
  refine ⟨?_, hk, fun i hi => by rw [b1, if_pos hi], fun i => ?_⟩
  · rw [b1, if_neg (by omega), Nat.sub_self]
    simp [Nat.testBit_zero]
  · rw [b2]
    by_cases hi : i < k
    · rw [if_pos hi, if_pos hi]
    · rw [if_neg hi, if_neg hi]
      by_cases he : i = k
      · subst he
        rw [if_pos rfl, Nat.sub_self]
        simp [Nat.testBit_zero]
      · rw [if_neg he, b1, if_neg hi]
        obtain ⟨j, hj⟩ : ∃ j, i - k = j + 1 := ⟨i - k - 1, by omega⟩
        rw [hj, Nat.testBit_succ, Nat.testBit_succ]
        congr 1
        omega
theorem bitsL_zero : bitsL 0 = [] := by simp [bitsL]
theorem bitsL_cons {M : Nat} (h0 : M ≠ 0) (hM : M < 4294967296) : bitsL M = Lib.ctz 32 M :: bitsL (M &&& (M - 1)) := by
  obtain ⟨h1, h2, h3, h4⟩ := low_bits h0 hM
  generalize Lib.ctz 32 M = k at h1 h2 h3 h4
  have hb : ∀ i, (M &&& (M - 1)).testBit i = (M.testBit i && !decide (i = k)) := fun i => by
    rw [Nat.testBit_and, h4]
    by_cases hi : i < k
    · rw [if_pos hi, h3 i hi]
      rfl
    · rw [if_neg hi]
      by_cases he : i = k
      · subst he
        simp
      · rw [if_neg he]
        simp [he]
  have er : List.range 32 = List.range k ++ (k :: List.range' (k + 1) (31 - k)) := by
    have e : List.range 32 = List.range' 0 (k + (1 + (31 - k))) := by rw [List.range_eq_range']; congr 1; omega
    rw [e, ← List.range'_append_1, Nat.zero_add, List.range_eq_range', Nat.add_comm 1, List.range'_succ]
  unfold bitsL
  rw [er, List.filter_append, List.filter_append, List.filter_cons, List.filter_cons, if_pos h1, if_neg (by rw [hb]; simp)]
  have f1 : (List.range k).filter (fun i => M.testBit i) = [] := List.filter_eq_nil_iff.2 (fun i hi => by rw [h3 i (List.mem_range.1 hi)]; simp)
  have f2 : (List.range k).filter (fun i => (M &&& (M - 1)).testBit i) = [] := List.filter_eq_nil_iff.2 (fun i hi => by rw [hb, h3 i (List.mem_range.1 hi)]; simp)
  rw [f1, f2, List.nil_append, List.nil_append]
  congr 1
  refine List.filter_congr fun i hi => ?_
  rw [hb]
  have := (List.mem_range'_1.1 hi).1
  have hne : i ≠ k := by omega
  simp [hne]
theorem bitsL_mem {M i : Nat} (h : i ∈ bitsL M) : M.testBit i = true ∧ i < 32 := by
  have := List.mem_filter.1 h
  exact ⟨this.2, List.mem_range.1 this.1⟩
end Go.Proofs.YteabclfhmapabaaDoor
end
section
namespace Go.Proofs.YteabclfhmapabaaDoor
open Go.RowKit
set_option linter.unusedVariables false

/-! an iterator that tells N things one behind the other, the k-th being 'encs k': the loop's body is asked only at what comes next -/
def SeqTells (F : Fence) (n : Nat) (P : Program) (g : Nat) (lb : Array Value) (encs : Nat → Array Value) (Kp : World → World → Prop) (N : Nat) (w : World) : Prop :=
  ∀ (l : Nat) (J Jx : Nat → World → Prop) (W : World), Below w.heap.size w W → AbidesFrom W.heap.size J → AbidesFrom W.heap.size Jx →
    (∀ k W1, k < N → J k W1 → YieldAt F (n - 1) P l (encs k) W1 fun e W' =>
      (e = .returned (.bool true) ∧ J (k + 1) W' ∧ Kp W1 W') ∨ (e = .returned (.bool false) ∧ Jx (k + 1) W')) →
    J 0 W →
    CallsIn F n P g (#[.func (.yield l) #[] #[]] ++ lb) W fun e W' => (∃ v, e = .returned v) ∧ (J N W' ∨ ∃ k, k ≤ N ∧ Jx k W')
/-- how a body may be left, k things having come with this one -/
def tellPost (B : Nat) (Kp : World → World → Prop) (I : Nat → World → Prop) (Ix : Code → Nat → World → Prop) (k : Nat) (W : World) : Exit → Act → World → Prop
  | .normal, _, W' => KeepsFrom B W W' ∧ Kp W W' ∧ I k W'
  | .ret, _, W' => KeepsFrom B W W' ∧ Ix .ret k W'
  | .exit id, _, W' => KeepsFrom B W W' ∧ Ix (.exit id) k W'
  | .goto t, _, W' => KeepsFrom B W W' ∧ Ix (.goto t) k W'
  | .panic _, _, _ => False
  | .outgrown, _, _ => False
/-- the loop's two blocks: that for deferred calls, and its record -/
structure Books (W : World) (b : Nat) (r : Loop) : Prop where
  lp : W.heap[b + 1]? = some (.loop r)
  df : W.heap[b]? = some (.deferred (some []))
theorem Books.put {W : World} {b : Nat} {r : Loop} (h : Books W b r) (r' : Loop) : Books (W.putObj (b + 1) (.loop r')) b r' :=
  ⟨World.putObj_heap_same (Array.getElem?_eq_some_iff.1 h.lp).1, (World.putObj_heap_other (by omega)).trans h.df⟩
theorem Books.kept {W W' : World} {b B : Nat} {r : Loop} (h : Books W b r) (hk : KeepsFrom B W W') (hB : B ≤ b) : Books W' b r :=
  ⟨hk.same _ _ (by omega) h.lp rfl, hk.same _ _ hB h.df rfl⟩
theorem Books.walks {W W' : World} {b : Nat} {r : Loop} {row : Option Nat} (h : Books W b r) (hg : W.grownBy W' row) (hr : ∀ q, row = some q → ∃ o : Obj, W.heap[q]? = some o ∧ o.isWalk = true) : Books W' b r :=
  ⟨(grownBy_keeps hg hr h.lp rfl).trans h.lp, (grownBy_keeps hg hr h.df rfl).trans h.df⟩
theorem wpIn_rangeTells {F : Fence} {n : Nat} {P : Program} {g : Operand} {ps : Array Tmp} {assign body : Code} {Q : Exit → Act → World → Prop} {a : Act} {w : World}
    (hro : F.round = none) (h1 : 1 ≤ n) {gf : Nat} {lb : Array Value} (hg : a.eval g = .func (.func gf) #[] lb) (hFg : F.fn gf) (eg : ∀ args w, (callFunc gf args).run P w = .ok (.enter gf args) w)
    {encs : Nat → Array Value} {Kp : World → World → Prop} {N : Nat} {w0 : World} (hseq : SeqTells F (n - 1) P gf lb encs Kp N w0)
    (hKt : ∀ {A B C : World}, Kp A B → Kp B C → Kp A C) (hKb : ∀ (W : World) (l : Nat) (o o' : Obj), w.heap.size ≤ l → W.heap[l]? = some o → o.isCells = false → o.isWalk = false → Kp W (W.putObj l o')) (hb0 : Below w0.heap.size w0 w) (hps : ∀ k, (encs k).size = ps.size)
    (I : Nat → World → Prop) (Ix : Code → Nat → World → Prop) (hI : OwnFrom w.heap.size I) (hIx : ∀ c, OwnFrom w.heap.size (Ix c)) (h0 : I 0 w) (Ax : Nat → Act → World → Prop) (hAx : ∀ k a', OwnFrom w.heap.size (fun (_ : Unit) W => Ax k a' W))
    (hassign : ∀ (l k : Nat) (W : World) (K : Act → World → Prop), k < N → I k W → (∀ a' W', KeepsFrom w.heap.size W W' → Kp W W' → I k W' → Ax k a' W' → K a' W') →
      assign.wpIn (F.inRound l) (n - 1 - 1) P (Exit.then K (fun _ _ _ => False)) { tmps := (ps.zip (encs k)).foldl (fun t (p, v) => t.setIfInBounds p v) a.tmps, defers := [] } W)
    (hbody : ∀ (l k : Nat) (a' : Act) (W : World), k < N → I k W → Ax k a' W → body.wpIn (F.inRound l) (n - 1 - 1) P (tellPost w.heap.size Kp I Ix (k + 1) W) a' W)
    (hdone : ∀ (D : Nat) (W : World), w.heap.size ≤ D → I N W → W.heap[D]? = some (.deferred (some [])) → Q .normal { a with defers := { target := .collected D, args := #[] } :: a.defers } W)
    (hstop : ∀ (D : Nat) (c : Code) (k : Nat) (W : World), w.heap.size ≤ D → k ≤ N → Ix c k W → W.heap[D]? = some (.deferred (some [])) → c.wpIn F n P Q { a with defers := { target := .collected D, args := #[] } :: a.defers } W) :
    (Code.rangeFunc g ps assign body).wpIn F n P Q a w := by
  refine wpIn_rangeFunc fun fn hfn => ?_
  rw [hro]
  let rec0 : LoopState → Option Code → Loop := fun st pe => { state := st, pending := pe, fn, tmps := a.tmps, params := ps, assign, body, defers := w.heap.size }
  obtain ⟨W1, hW1⟩ : ∃ W1, (w.alloc (.deferred (some []))).alloc (.loop (rec0 .ready none)) = W1 := ⟨_, rfl⟩
  have hs1 : W1.heap.size = w.heap.size + 2 := by rw [← hW1]; simp
  have hk1 : Books W1 w.heap.size (rec0 .ready none) := by
    refine ⟨?_, ?_⟩
    · rw [← hW1]
      have := World.alloc_heap_new (w.alloc (.deferred (some []))) (.loop (rec0 .ready none))
      rwa [World.size_alloc] at this
    · rw [← hW1]
      exact (Below.heap_alloc _ _ _ (by simp)).trans (World.alloc_heap_new w _)
  have hI1 : I 0 W1 := by rw [← hW1]; exact hI.alloc _ (hI.alloc _ h0)
  have hb1 : Below w0.heap.size w0 W1 := by
    rw [← hW1]
    exact hb0.trans ((((Below.refl _ w).alloc (Nat.le_refl _) _).alloc (by simp) _).mono hb0.size)
  refine ⟨w.heap.size + 1, [{ target := .collected w.heap.size, args := #[] }], W1, { target := .fn (.func gf) lb, args := #[.func (.yield (w.heap.size + 1)) #[] #[]] }, W1, gf, #[.func (.yield (w.heap.size + 1)) #[] #[]] ++ lb, W1, ?_, ?_, ?_, ?_, fun _ => h1, ?_⟩
  · rw [← hW1]; exact run_enterLoop_outer _ _ _ _ _
  · simp only [resolve, hg]
    simp [go_sem]
  · intro f' hf'
    simp [Target.leads] at hf'
    subst hf'
    exact hFg
  · simp [invoke, go_sem, eg]
  have hnw : ∀ {A : World} {row : Option Nat}, (∀ r, row = some r → W1.heap.size ≤ r ∧ ∃ o : Obj, A.heap[r]? = some o ∧ o.isWalk = true) → (∀ r, row = some r → w.heap.size ≤ r ∧ ∃ o : Obj, A.heap[r]? = some o ∧ o.isCells = false) := fun hr r e => by
    obtain ⟨hB, o, ho, hw⟩ := hr r e
    exact ⟨by omega, o, ho, Obj.not_cells_of_walk hw⟩
  refine (hseq (w.heap.size + 1) (fun k W => I k W ∧ Books W w.heap.size (rec0 .ready none)) (fun k W => ∃ c, Ix c k W ∧ Books W w.heap.size (rec0 .done (some c))) W1 hb1
    (fun s A B row hs hg' hr => ⟨hI s A B row hs.1 hg' (hnw hr), hs.2.walks hg' (fun r e => (hr r e).2)⟩)
    (fun s A B row hs hg' hr => by
      obtain ⟨c, hc, hk⟩ := hs
      exact ⟨c, hIx c s A B row hc hg' (hnw hr), hk.walks hg' (fun r e => (hr r e).2)⟩)
    ?_ ⟨hI1, hk1⟩).mono ?_
  · rintro k W hkN ⟨hi, hk⟩
    have hy := run_yield (P := P) (args := encs k) hk.lp (hps k)
    refine ⟨fn, _, assign, body, hy, roundIn_of_wpIn hfn (hassign _ k W _ hkN hi fun a' Wa hkfa hkpa hia hax => ?_)⟩
    clear hy
    have hka := hk.kept hkfa (Nat.le_refl _)
    refine ⟨_, run_beginRound hka.lp rfl, ?_⟩
    have hk2 := hka.put { rec0 .ready none with state := .busy }
    have hp2 : Kp Wa (Wa.putObj (w.heap.size + 1) (.loop { rec0 .ready none with state := .busy })) := hKb _ _ _ _ (by omega) hka.lp rfl rfl
    refine wpIn_mono (hbody _ k a' _ hkN (hI.putObj _ hia (by omega) hka.lp rfl) ((hAx k a').putObj (s := ()) _ hax (by omega) hka.lp rfl)) ?_
    have fin : ∀ (jump : Option Code) (W3 : World), KeepsFrom w.heap.size (Wa.putObj (w.heap.size + 1) (.loop { rec0 .ready none with state := .busy })) W3 →
        (Instr.endRound (w.heap.size + 1) jump).run P W3 = .ok (.bool jump.isNone) (W3.putObj (w.heap.size + 1) (.loop (rec0 (if jump.isNone then .ready else .done) jump))) ∧
        Books W3 w.heap.size { rec0 .ready none with state := .busy } := fun jump W3 hk3 =>
      ⟨run_endRound (P := P) jump (hk2.kept hk3 (Nat.le_refl _)).lp, hk2.kept hk3 (Nat.le_refl _)⟩
    intro e a3 W3 hp
    cases e with
    | normal =>
      obtain ⟨hr, hb3⟩ := fin none W3 hp.1
      exact ⟨_, _, hr, .inl ⟨rfl, ⟨hI.putObj _ hp.2.2 (by omega) hb3.lp rfl, hb3.put _⟩, hKt hkpa (hKt (hKt hp2 hp.2.1) (hKb _ _ _ _ (by omega) hb3.lp rfl rfl))⟩⟩
    | ret =>
      obtain ⟨hr, hb3⟩ := fin (some .ret) W3 hp.1
      exact ⟨_, _, hr, .inr ⟨rfl, .ret, (hIx _).putObj _ hp.2 (by omega) hb3.lp rfl, hb3.put _⟩⟩
    | exit id =>
      obtain ⟨hr, hb3⟩ := fin (some (.exit id)) W3 hp.1
      exact ⟨_, _, hr, .inr ⟨rfl, .exit id, (hIx _).putObj _ hp.2 (by omega) hb3.lp rfl, hb3.put _⟩⟩
    | goto t =>
      obtain ⟨hr, hb3⟩ := fin (some (.goto t)) W3 hp.1
      exact ⟨_, _, hr, .inr ⟨rfl, .goto t, (hIx _).putObj _ hp.2 (by omega) hb3.lp rfl, hb3.put _⟩⟩
    | panic ch => exact hp.elim
    | outgrown => exact hp.elim
  · rintro e W2 ⟨⟨v, rfl⟩, (⟨hi, hk⟩ | ⟨k, hkN, c, hi, hk⟩)⟩
    · exact ⟨none, _, run_endLoop (P := P) hk.lp (by simp), hdone _ _ (Nat.le_refl _) (hI.putObj _ hi (by omega) hk.lp rfl) (hk.put _).df⟩
    · exact ⟨some c, _, run_endLoop (P := P) hk.lp (by simp), hstop _ c k _ (Nat.le_refl _) hkN ((hIx c).putObj _ hi (by omega) hk.lp rfl) (hk.put _).df⟩
end Go.Proofs.YteabclfhmapabaaDoor
end
