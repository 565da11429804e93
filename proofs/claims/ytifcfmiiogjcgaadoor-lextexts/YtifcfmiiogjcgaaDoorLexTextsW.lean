import Derived.Test.YtifcfmiiogjcgaaDoorLexTextA
import Derived.Test.YtifcfmiiogjcgaaDoorLexLaid
import Derived.ProofKit
import Derived.OpenShut
import Derived.ShutString
import Derived.Lib.SmallJoins
import Derived.Deep.CondSized
import Derived.Lib.LaidTab
namespace Go.Proofs.YtifcfmiiogjcgaaDoor
open Go.ChangeShapes Go.WideShapes Go.ChangeAt Go.RowKit Go.Joins
set_option linter.unusedVariables false
set_option linter.unusedSimpArgs false

theorem txV_form (o : Option (List UInt8)) : ∃ (x : ByteArray) (e : Int), txV o = .tuple #[.string x, .int .i64 e] := by
  cases o
  · exact ⟨_, _, rfl⟩
  · exact ⟨_, _, rfl⟩
set_option maxHeartbeats 1600000 in
theorem LexTexts_any (k : Int) (s : ByteArray) (n a : Int) (w : World) (hg : Gl w) (ht : Lib.TabIs Tryd.prog w "internal/strconv.uint64pow10" .u64 Lib.pow10Tab) (hs : s.size ≤ maxLen) (h0 : -9223372036854775808 ≤ n) (h1 : n ≤ 9223372036854775807) :
    Calls Tryd.prog 3 #[.agg #[.int .i8 k, .string s, .int .i64 n, .int .i64 a]] w fun e w' => e = .returned (.bool true) ∧ Below w.heap.size w w' := by
  obtain ⟨x, c, hx⟩ := txV_form (fullT ⟨k, s.data.toList, n, a⟩)
  have HA : Hid (∀ w, Gl w → Lib.TabIs Tryd.prog w "internal/strconv.uint64pow10" .u64 Lib.pow10Tab → Calls Tryd.prog 4 #[.agg #[.int .i8 k, .string s, .int .i64 n, .int .i64 a]] w fun e w' => e = .returned (.tuple #[.string x, .int .i64 c]) ∧ Below w.heap.size w w') := fun w hg ht => by rw [← hx]; exact Text_full k s n a hs h0 h1 w hg ht
  have HB : Hid (∀ w, Calls Tryd.prog 5 #[.agg #[.int .i8 k, .string s, .int .i64 n, .int .i64 a]] w fun e w' => e = .returned (.tuple #[.string x, .int .i64 c]) ∧ Below w.heap.size w w') := fun w => by rw [← hx]; exact rText_full k s n a hs h0 h1 w
  have HG : Hid (Gl w) := hg
  have HT : Hid (Lib.TabIs Tryd.prog w "internal/strconv.uint64pow10" .u64 Lib.pow10Tab) := ht
  have HAL : Hid (∀ o, Below w.heap.size w (w.alloc o)) := fun o => (Below.refl _ _).alloc (Nat.le_refl _) _
  clear hx hg ht h0 h1
  go_enter Tryd.func3, Tryd.ntmps3
  go_wp2_with fail
  refine (HA.out _ (HG.out.below (HAL.out _)) (VS.tab_below HT.out (HAL.out _))).mono ?_
  rintro e w1 ⟨rfl, hb1⟩
  have c0 := kept_cell hb1 0 _ rfl
  have c1 := kept_cell hb1 1 _ rfl
  have c2 := kept_cell hb1 2 _ rfl
  have c3 := kept_cell hb1 3 _ rfl
  have bf1 := (HAL.out _).trans (hb1.mono (by simp))
  clear hb1 HA
  go_wp2_with fail
  refine (HB.out _).mono ?_
  rintro e w2 ⟨rfl, hb2⟩
  have bf2 := bf1.trans (hb2.mono bf1.size)
  clear hb2 HB c0 c1 c2 c3
  go_wp2_with fail
  refine (lives_any _ (HG.out.below bf2)).mono ?_
  rintro e w3 ⟨rfl, hb3⟩
  go_wp2
  go_ret
  exact ⟨rfl, bf2.trans (hb3.mono bf2.size)⟩
theorem cellsTok : Tryd.prog.cellsOf 25 = 4 := by kernel_rfl
theorem cellsTK : Tryd.prog.cellsOf 23 = 1 := by kernel_rfl
theorem cellsTN : Tryd.prog.cellsOf 2 = 1 := by kernel_rfl
theorem cellsTI : Tryd.prog.cellsOf 3 = 1 := by kernel_rfl
theorem cellsTS : Tryd.prog.cellsOf 9 = 1 := by kernel_rfl
theorem open_token {H : Type} {enc : TypeId × Value → H} {w : World} {base : Nat} {spare : Nat → Bool} {held : Bool} {r : Reach} {b0 : Nat} {v : Value} {d : DataW H} {p : List MemPlace}
    (hv : Value.okWide Tryd.prog w r b0 25 v) (h : DataW.Trod enc Tryd.prog w base spare held 25 v d p) :
    ∃ (k : Int) (s : ByteArray) (n a : Int), v = .agg #[.int .i8 k, .string s, .int .i64 n, .int .i64 a] ∧ s.size ≤ maxLen ∧ -9223372036854775808 ≤ n ∧ n ≤ 9223372036854775807 := by
  obtain ⟨cs, rfl, hcs⟩ := okWide_struct Tryd.underlying25 hv
  obtain ⟨m, hm⟩ := h
  rw [cellsTok] at hcs
  have hl : cs.toList.length = 4 := by simpa [Value.cells] using hcs
  obtain ⟨xs, k, hk, hxy, _, hxl, hf⟩ := DataW.trod_struct Tryd.underlying25 hm
  have hcl : (Value.agg cs).cells.toList = cs.toList := rfl
  match xs, hxl with
  | [y0, y1, y2, y3], _ =>
    obtain ⟨v0, v1, v2, v3, e⟩ : ∃ v0 v1 v2 v3, cs.toList = [v0, v1, v2, v3] := by
      match cs.toList, hl with
      | [a, b, c, d], _ => exact ⟨a, b, c, d, rfl⟩
    have g0 := hf 0 _ rfl
    have g1 := hf 1 _ rfl
    have g2 := hf 2 _ rfl
    have g3 := hf 3 _ rfl
    rw [hcl, e] at g0 g1 g2 g3
    simp [cellsTK, cellsTS, cellsTN, cellsTI] at g0 g1 g2 g3
    obtain ⟨a, e0, _, w0⟩ := DataW.trod_int Tryd.underlying23 g0
    obtain ⟨s, e1, _, hs⟩ := DataW.trod_string Tryd.underlying9 g1
    obtain ⟨b, e2, _, w2⟩ := DataW.trod_int Tryd.underlying2 g2
    obtain ⟨c, e3, _, w3⟩ := DataW.trod_int Tryd.underlying3 g3
    simp at e0 e1 e2 e3
    subst e0 e1 e2 e3
    refine ⟨a, s, b, c, ?_, hs, ?_, ?_⟩
    · congr 1
      exact Array.toList_inj.1 e
    · simp only [Lit.wf, Bool.and_eq_true, decide_eq_true_eq] at w2; exact w2.1
    · simp only [Lit.wf, Bool.and_eq_true, decide_eq_true_eq] at w2; exact w2.2
theorem pow_of_laid {W : World} (h : laidMetH Tryd.prog laidL W) : Lib.TabIs Tryd.prog W "internal/strconv.uint64pow10" .u64 Lib.pow10Tab := by
  have h0 : laidMet Tryd.prog laidL W := h
  have h2 := h0.tail.tail
  rw [show Lib.pow10Tab = [1, 10, 100, 1000, 10000, 100000, 1000000, 10000000, 100000000, 1000000000, 10000000000, 100000000000, 1000000000000, 10000000000000, 100000000000000, 1000000000000000, 10000000000000000, 100000000000000000, 1000000000000000000, 10000000000000000000] by decide]
  exact Lib.tabIs_of_head (g := 2) (by kernel_rfl) (by kernel_rfl) Tryd.underlying78 Tryd.underlying32 (by kernel_rfl) (by kernel_rfl) h2
end Go.Proofs.YtifcfmiiogjcgaaDoor
