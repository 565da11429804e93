import Derived.Test.YtekjoccbbamehaaIxRen
namespace Go.Proofs.Ytekjoccbbamehaa
open Go.RowKit Go.Maps Go.Shelf
set_option linter.unusedVariables false
set_option linter.unusedSimpArgs false
attribute [local go_sem ↓] Go.wp_at_zero Go.wp_at_succ
attribute [-go_sem] loadVar storeVar

/-- is every bit of the mask a column of so many? -/
def colB (m : Int) (n : Nat) : Bool := m / 2 ^ n == 0
theorem run_shrX (m : Int) (n : Nat) (hn : n ≤ 24) (u : World) : (binOp .shr 24 (.int .u32 m) (.int .i64 (n : Int))).run Try.prog u = .ok (.int .u32 (m / 2 ^ n)) u := by
  have h0 : ¬ ((n : Int) < 0) := by omega
  have h1 : min ((n : Int)).toNat IntKind.u32.bits = n := by rw [Int.toNat_natCast]; show min n 32 = n; omega
  simp [binOp, Op.shift, h0, go_sem]
set_option maxHeartbeats 1600000 in
set_option maxRecDepth 100000 in
theorem columns_ix {w : World} {B' tt mm : Nat} {sv : Value} {rows : List (List Int)} {n : Nat} {gone : Int} (hr : Rel w B' tt mm sv rows (n : Int) gone) (hn : n ≤ 24) (m : Int) :
    Calls Try.prog 34 #[.agg #[.pointer (some ⟨tt, 0, none⟩)], .int .u32 m] w fun e w' => e = .returned (.bool (colB m n)) ∧ Below w.heap.size w w' := by
  have hb := belowA (w := w) (.cells #[.pointer (some ⟨tt, 0, none⟩)] 77)
  have HB := Lib.hid hb
  have HN := Lib.hid (hr.keep hb)
  have l1 := load_prelX (Boxed.new w 77 (.pointer (some ⟨tt, 0, none⟩))).cell
  have hs := fun u => run_shrX m n hn u
  clear hr hb
  go_enter Try.func34, Try.ntmps34
  go_wp2_with fail
  refine (arity_yes HN.out).mono ?_
  rintro e w2 ⟨rfl, rfl⟩
  go_wp2
  go_ret
  exact ⟨rfl, HB.out⟩
end Go.Proofs.Ytekjoccbbamehaa
