import Derived.Shelf.Strconv.Itoa0
import Derived.Shelf.Strconv.Itoa1
import Derived.Shelf.LaysM
import Derived.Shelf.Strconv.Itoa2
import Derived.Shelf.Strconv.Itoa3
import Derived.Shelf.Strconv.Itoa4
import Derived.Test.YtkfajjnaadmobaaGreatDoorProg
import Derived.Test.YtkfajjnaadmobaaGreatDoorG3
import Derived.Lib.ItoaNum
import Derived.Lib.AppendIntMem
import Derived.Lib.LaidTab
import Derived.Test.YtkfajjnaadmobaaGreatDoorG6
import Derived.Deep.MidRow
section
-- the library's contracts at this dump, in plain words (lay-shelf.mjs, shelfcut.py, lay-plain.mjs)
namespace Go.Proofs
open Go.Shelf
def Tryz.laysM246_ren : Go.Shelf.Ren := ⟨fun | 246 => 85 | 283 => 102 | 284 => 103 | 285 => 104 | 286 => 105 | 129 => 101 | 317 => 117 | 318 => 118 | 319 => 119 | 320 => 120 | 337 => 124 | 338 => 125 | n => n, fun | 2 => 2 | 3 => 3 | 9 => 9 | 4 => 4 | 171 => 174 | 0 => 0 | 53 => 173 | 37 => 176 | 5 => 5 | 173 => 177 | 212 => 188 | 51 => 171 | 20 => 20 | 213 => 189 | 46 => 159 | 232 => 194 | 233 => 195 | n => n, fun | 17 => 2 | 18 => 3 | 19 => 4 | n => n⟩
theorem Tryz.laysM246 : Go.Proofs.LaysM.n246 Tryz.prog Tryz.laysM246_ren := {
  mixed := by kernel_rfl
  f129 := Tryz.func101.trans (congrArg some (by kernel_rfl))
  f246 := Tryz.func85.trans (congrArg some (by kernel_rfl))
  f283 := Tryz.func102.trans (congrArg some (by kernel_rfl))
  f284 := Tryz.func103.trans (congrArg some (by kernel_rfl))
  f285 := Tryz.func104.trans (congrArg some (by kernel_rfl))
  f286 := Tryz.func105.trans (congrArg some (by kernel_rfl))
  f317 := Tryz.func117.trans (congrArg some (by kernel_rfl))
  f318 := Tryz.func118.trans (congrArg some (by kernel_rfl))
  f319 := Tryz.func119.trans (congrArg some (by kernel_rfl))
  f320 := Tryz.func120.trans (congrArg some (by kernel_rfl))
  f337 := Tryz.func124.trans (congrArg some (by kernel_rfl))
  f338 := Tryz.func125.trans (congrArg some (by kernel_rfl))
  t0 := Tryz.underlying0
  a0 := Tryz.isAgg0
  z0 := Tryz.sizeOf0
  v0 := Tryz.zeroValue0
  t2 := Tryz.underlying2
  a2 := Tryz.isAgg2
  z2 := Tryz.sizeOf2
  v2 := Tryz.zeroValue2
  t3 := Tryz.underlying3
  a3 := Tryz.isAgg3
  z3 := Tryz.sizeOf3
  v3 := Tryz.zeroValue3
  t4 := Tryz.underlying4
  a4 := Tryz.isAgg4
  z4 := Tryz.sizeOf4
  v4 := Tryz.zeroValue4
  t5 := Tryz.underlying5
  a5 := Tryz.isAgg5
  z5 := Tryz.sizeOf5
  v5 := Tryz.zeroValue5
  t9 := Tryz.underlying9
  a9 := Tryz.isAgg9
  z9 := Tryz.sizeOf9
  v9 := Tryz.zeroValue9
  t20 := Tryz.underlying20
  a20 := Tryz.isAgg20
  z20 := Tryz.sizeOf20
  v20 := Tryz.zeroValue20
  t37 := Tryz.underlying176
  a37 := Tryz.isAgg176
  z37 := Tryz.sizeOf176
  v37 := Tryz.zeroValue176
  t46 := Tryz.underlying159
  a46 := Tryz.isAgg159
  z46 := Tryz.sizeOf159
  v46 := Tryz.zeroValue159
  t51 := Tryz.underlying171
  a51 := Tryz.isAgg171
  z51 := Tryz.sizeOf171
  v51 := Tryz.zeroValue171
  t53 := Tryz.underlying173
  a53 := Tryz.isAgg173
  z53 := Tryz.sizeOf173
  v53 := Tryz.zeroValue173
  t171 := Tryz.underlying174
  a171 := Tryz.isAgg174
  z171 := Tryz.sizeOf174
  v171 := Tryz.zeroValue174
  t173 := Tryz.underlying177
  a173 := Tryz.isAgg177
  z173 := Tryz.sizeOf177
  v173 := Tryz.zeroValue177
  t212 := Tryz.underlying188
  a212 := Tryz.isAgg188
  z212 := Tryz.sizeOf188
  v212 := Tryz.zeroValue188
  t213 := Tryz.underlying189
  a213 := Tryz.isAgg189
  z213 := Tryz.sizeOf189
  t232 := Tryz.underlying194
  a232 := Tryz.isAgg194
  z232 := Tryz.sizeOf194
  v232 := Tryz.zeroValue194
  t233 := Tryz.underlying195
  a233 := Tryz.isAgg195
  z233 := Tryz.sizeOf195
  v233 := Tryz.zeroValue195
  g17 := by kernel_rfl
  g18 := by kernel_rfl
  g19 := by kernel_rfl
  i0 := by kernel_rfl
  i2 := by kernel_rfl
  i3 := by kernel_rfl
  i4 := by kernel_rfl
  i5 := by kernel_rfl
  i9 := by kernel_rfl
  i20 := by kernel_rfl
  i37 := by kernel_rfl
  i46 := by kernel_rfl
  i51 := by kernel_rfl
  i53 := by kernel_rfl
  i171 := by kernel_rfl
  i173 := by kernel_rfl
  i212 := by kernel_rfl
  i232 := by kernel_rfl
  i233 := by kernel_rfl
  m17 := by kernel_rfl
  m18 := by kernel_rfl
  m19 := by kernel_rfl }
open Go.RowKit Go.Sort Go.Lib in
theorem Tryz.internal_strconv_FormatInt_10 (n : Int) (h0 : -9223372036854775808 ≤ n) (h1 : n ≤ 9223372036854775807) (w : World) (htab : Lib.TabIs Tryz.prog w "internal/strconv.uint64pow10" .u64 Lib.pow10Tab) :
    Calls Tryz.prog 85 #[.int .i64 n, .int .i64 10] w fun e w' => e = .returned (.string ⟨(Lib.itoa n).toArray⟩) ∧ ∃ k os, w' = grow (w.drewN k) os := Any.internal_strconv_FormatInt_10 Tryz.laysM246 n h0 h1 w htab
def Tryz.laysM243_ren : Go.Shelf.Ren := ⟨fun | 243 => 75 | 246 => 85 | 283 => 102 | 284 => 103 | 285 => 104 | 286 => 105 | 129 => 101 | 317 => 117 | 318 => 118 | 319 => 119 | 320 => 120 | 337 => 124 | 338 => 125 | n => n, fun | 3 => 3 | 9 => 9 | 2 => 2 | 4 => 4 | 171 => 174 | 0 => 0 | 53 => 173 | 37 => 176 | 5 => 5 | 173 => 177 | 212 => 188 | 51 => 171 | 20 => 20 | 213 => 189 | 46 => 159 | 232 => 194 | 233 => 195 | n => n, fun | 17 => 2 | 18 => 3 | 19 => 4 | n => n⟩
theorem Tryz.laysM243 : Go.Proofs.LaysM.n243 Tryz.prog Tryz.laysM243_ren := {
  mixed := by kernel_rfl
  f129 := Tryz.func101.trans (congrArg some (by kernel_rfl))
  f243 := Tryz.func75.trans (congrArg some (by kernel_rfl))
  f246 := Tryz.func85.trans (congrArg some (by kernel_rfl))
  f283 := Tryz.func102.trans (congrArg some (by kernel_rfl))
  f284 := Tryz.func103.trans (congrArg some (by kernel_rfl))
  f285 := Tryz.func104.trans (congrArg some (by kernel_rfl))
  f286 := Tryz.func105.trans (congrArg some (by kernel_rfl))
  f317 := Tryz.func117.trans (congrArg some (by kernel_rfl))
  f318 := Tryz.func118.trans (congrArg some (by kernel_rfl))
  f319 := Tryz.func119.trans (congrArg some (by kernel_rfl))
  f320 := Tryz.func120.trans (congrArg some (by kernel_rfl))
  f337 := Tryz.func124.trans (congrArg some (by kernel_rfl))
  f338 := Tryz.func125.trans (congrArg some (by kernel_rfl))
  t0 := Tryz.underlying0
  a0 := Tryz.isAgg0
  z0 := Tryz.sizeOf0
  v0 := Tryz.zeroValue0
  t2 := Tryz.underlying2
  a2 := Tryz.isAgg2
  z2 := Tryz.sizeOf2
  v2 := Tryz.zeroValue2
  t3 := Tryz.underlying3
  a3 := Tryz.isAgg3
  z3 := Tryz.sizeOf3
  v3 := Tryz.zeroValue3
  t4 := Tryz.underlying4
  a4 := Tryz.isAgg4
  z4 := Tryz.sizeOf4
  v4 := Tryz.zeroValue4
  t5 := Tryz.underlying5
  a5 := Tryz.isAgg5
  z5 := Tryz.sizeOf5
  v5 := Tryz.zeroValue5
  t9 := Tryz.underlying9
  a9 := Tryz.isAgg9
  z9 := Tryz.sizeOf9
  v9 := Tryz.zeroValue9
  t20 := Tryz.underlying20
  a20 := Tryz.isAgg20
  z20 := Tryz.sizeOf20
  v20 := Tryz.zeroValue20
  t37 := Tryz.underlying176
  a37 := Tryz.isAgg176
  z37 := Tryz.sizeOf176
  v37 := Tryz.zeroValue176
  t46 := Tryz.underlying159
  a46 := Tryz.isAgg159
  z46 := Tryz.sizeOf159
  v46 := Tryz.zeroValue159
  t51 := Tryz.underlying171
  a51 := Tryz.isAgg171
  z51 := Tryz.sizeOf171
  v51 := Tryz.zeroValue171
  t53 := Tryz.underlying173
  a53 := Tryz.isAgg173
  z53 := Tryz.sizeOf173
  v53 := Tryz.zeroValue173
  t171 := Tryz.underlying174
  a171 := Tryz.isAgg174
  z171 := Tryz.sizeOf174
  v171 := Tryz.zeroValue174
  t173 := Tryz.underlying177
  a173 := Tryz.isAgg177
  z173 := Tryz.sizeOf177
  v173 := Tryz.zeroValue177
  t212 := Tryz.underlying188
  a212 := Tryz.isAgg188
  z212 := Tryz.sizeOf188
  v212 := Tryz.zeroValue188
  t213 := Tryz.underlying189
  a213 := Tryz.isAgg189
  z213 := Tryz.sizeOf189
  t232 := Tryz.underlying194
  a232 := Tryz.isAgg194
  z232 := Tryz.sizeOf194
  v232 := Tryz.zeroValue194
  t233 := Tryz.underlying195
  a233 := Tryz.isAgg195
  z233 := Tryz.sizeOf195
  v233 := Tryz.zeroValue195
  g17 := by kernel_rfl
  g18 := by kernel_rfl
  g19 := by kernel_rfl
  i0 := by kernel_rfl
  i2 := by kernel_rfl
  i3 := by kernel_rfl
  i4 := by kernel_rfl
  i5 := by kernel_rfl
  i9 := by kernel_rfl
  i20 := by kernel_rfl
  i37 := by kernel_rfl
  i46 := by kernel_rfl
  i51 := by kernel_rfl
  i53 := by kernel_rfl
  i171 := by kernel_rfl
  i173 := by kernel_rfl
  i212 := by kernel_rfl
  i232 := by kernel_rfl
  i233 := by kernel_rfl
  m17 := by kernel_rfl
  m18 := by kernel_rfl
  m19 := by kernel_rfl }
open Go.RowKit Go.Sort Go.Lib in
theorem Tryz.internal_strconv_Itoa (n : Int) (h0 : -9223372036854775808 ≤ n) (h1 : n ≤ 9223372036854775807) (w : World) (htab : Lib.TabIs Tryz.prog w "internal/strconv.uint64pow10" .u64 Lib.pow10Tab) :
    Calls Tryz.prog 75 #[.int .i64 n] w fun e w' => e = .returned (.string ⟨(Lib.itoa n).toArray⟩) ∧ ∃ k os, w' = grow (w.drewN k) os := Any.internal_strconv_Itoa Tryz.laysM243 n h0 h1 w htab
def Tryz.laysM171_ren : Go.Shelf.Ren := ⟨fun | 171 => 59 | 243 => 75 | 246 => 85 | 283 => 102 | 284 => 103 | 285 => 104 | 286 => 105 | 129 => 101 | 317 => 117 | 318 => 118 | 319 => 119 | 320 => 120 | 337 => 124 | 338 => 125 | n => n, fun | 3 => 3 | 9 => 9 | 2 => 2 | 4 => 4 | 171 => 174 | 0 => 0 | 53 => 173 | 37 => 176 | 5 => 5 | 173 => 177 | 212 => 188 | 51 => 171 | 20 => 20 | 213 => 189 | 46 => 159 | 232 => 194 | 233 => 195 | n => n, fun | 17 => 2 | 18 => 3 | 19 => 4 | n => n⟩
theorem Tryz.laysM171 : Go.Proofs.LaysM.n171 Tryz.prog Tryz.laysM171_ren := {
  mixed := by kernel_rfl
  f129 := Tryz.func101.trans (congrArg some (by kernel_rfl))
  f171 := Tryz.func59.trans (congrArg some (by kernel_rfl))
  f243 := Tryz.func75.trans (congrArg some (by kernel_rfl))
  f246 := Tryz.func85.trans (congrArg some (by kernel_rfl))
  f283 := Tryz.func102.trans (congrArg some (by kernel_rfl))
  f284 := Tryz.func103.trans (congrArg some (by kernel_rfl))
  f285 := Tryz.func104.trans (congrArg some (by kernel_rfl))
  f286 := Tryz.func105.trans (congrArg some (by kernel_rfl))
  f317 := Tryz.func117.trans (congrArg some (by kernel_rfl))
  f318 := Tryz.func118.trans (congrArg some (by kernel_rfl))
  f319 := Tryz.func119.trans (congrArg some (by kernel_rfl))
  f320 := Tryz.func120.trans (congrArg some (by kernel_rfl))
  f337 := Tryz.func124.trans (congrArg some (by kernel_rfl))
  f338 := Tryz.func125.trans (congrArg some (by kernel_rfl))
  t0 := Tryz.underlying0
  a0 := Tryz.isAgg0
  z0 := Tryz.sizeOf0
  v0 := Tryz.zeroValue0
  t2 := Tryz.underlying2
  a2 := Tryz.isAgg2
  z2 := Tryz.sizeOf2
  v2 := Tryz.zeroValue2
  t3 := Tryz.underlying3
  a3 := Tryz.isAgg3
  z3 := Tryz.sizeOf3
  v3 := Tryz.zeroValue3
  t4 := Tryz.underlying4
  a4 := Tryz.isAgg4
  z4 := Tryz.sizeOf4
  v4 := Tryz.zeroValue4
  t5 := Tryz.underlying5
  a5 := Tryz.isAgg5
  z5 := Tryz.sizeOf5
  v5 := Tryz.zeroValue5
  t9 := Tryz.underlying9
  a9 := Tryz.isAgg9
  z9 := Tryz.sizeOf9
  v9 := Tryz.zeroValue9
  t20 := Tryz.underlying20
  a20 := Tryz.isAgg20
  z20 := Tryz.sizeOf20
  v20 := Tryz.zeroValue20
  t37 := Tryz.underlying176
  a37 := Tryz.isAgg176
  z37 := Tryz.sizeOf176
  v37 := Tryz.zeroValue176
  t46 := Tryz.underlying159
  a46 := Tryz.isAgg159
  z46 := Tryz.sizeOf159
  v46 := Tryz.zeroValue159
  t51 := Tryz.underlying171
  a51 := Tryz.isAgg171
  z51 := Tryz.sizeOf171
  v51 := Tryz.zeroValue171
  t53 := Tryz.underlying173
  a53 := Tryz.isAgg173
  z53 := Tryz.sizeOf173
  v53 := Tryz.zeroValue173
  t171 := Tryz.underlying174
  a171 := Tryz.isAgg174
  z171 := Tryz.sizeOf174
  v171 := Tryz.zeroValue174
  t173 := Tryz.underlying177
  a173 := Tryz.isAgg177
  z173 := Tryz.sizeOf177
  v173 := Tryz.zeroValue177
  t212 := Tryz.underlying188
  a212 := Tryz.isAgg188
  z212 := Tryz.sizeOf188
  v212 := Tryz.zeroValue188
  t213 := Tryz.underlying189
  a213 := Tryz.isAgg189
  z213 := Tryz.sizeOf189
  t232 := Tryz.underlying194
  a232 := Tryz.isAgg194
  z232 := Tryz.sizeOf194
  v232 := Tryz.zeroValue194
  t233 := Tryz.underlying195
  a233 := Tryz.isAgg195
  z233 := Tryz.sizeOf195
  v233 := Tryz.zeroValue195
  g17 := by kernel_rfl
  g18 := by kernel_rfl
  g19 := by kernel_rfl
  i0 := by kernel_rfl
  i2 := by kernel_rfl
  i3 := by kernel_rfl
  i4 := by kernel_rfl
  i5 := by kernel_rfl
  i9 := by kernel_rfl
  i20 := by kernel_rfl
  i37 := by kernel_rfl
  i46 := by kernel_rfl
  i51 := by kernel_rfl
  i53 := by kernel_rfl
  i171 := by kernel_rfl
  i173 := by kernel_rfl
  i212 := by kernel_rfl
  i232 := by kernel_rfl
  i233 := by kernel_rfl
  m17 := by kernel_rfl
  m18 := by kernel_rfl
  m19 := by kernel_rfl }
open Go.RowKit Go.Sort Go.Lib in
theorem Tryz.strconv_Itoa (n : Int) (h0 : -9223372036854775808 ≤ n) (h1 : n ≤ 9223372036854775807) (w : World) (htab : Lib.TabIs Tryz.prog w "internal/strconv.uint64pow10" .u64 Lib.pow10Tab) :
    Calls Tryz.prog 59 #[.int .i64 n] w fun e w' => e = .returned (.string ⟨(Lib.itoa n).toArray⟩) ∧ ∃ k os, w' = grow (w.drewN k) os := Any.strconv_Itoa Tryz.laysM171 n h0 h1 w htab
end Go.Proofs
end
section
namespace Go.Proofs.YtkfajjnaadmobaaGreatDoor
open Go.RowKit Go.Maps
set_option linter.unusedVariables false
set_option linter.unusedSimpArgs false

/-- in ValueShow2's place, where value.Show is not called -/
theorem tab_below {W W' : World} {name : String} {k : IntKind} {zs : List Int} (h : Lib.TabIs Tryz.prog W name k zs) (hb : Below W.heap.size W W') : Lib.TabIs Tryz.prog W' name k zs := by
  unfold Lib.TabIs World.var? at h ⊢
  cases hg : Tryz.prog.globalNamed name with
  | none => rw [hg] at h; cases h
  | some g =>
    rw [hg] at h
    simp only [Option.bind_some] at h ⊢
    have hlt : g < W.heap.size := by
      by_cases hl : g < W.heap.size
      · exact hl
      · rw [Array.getElem?_eq_none (by omega)] at h; cases h
    rw [hb.block g hlt]
    exact h
end Go.Proofs.YtkfajjnaadmobaaGreatDoor
end
section
namespace Go.Proofs.YtkfajjnaadmobaaGreatDoor
open Go.RowKit Go.Maps
set_option linter.unusedVariables false
set_option linter.unusedSimpArgs false
attribute [local go_sem ↓] Go.wp_at_zero Go.wp_at_succ

abbrev PWt (w : World) : Prop := Lib.TabIs Tryz.prog w "internal/strconv.uint64pow10" .u64 Lib.pow10Tab
theorem mark_itoa : (⟨#[35]⟩ : ByteArray) ++ ⟨(Lib.itoa 777777).toArray⟩ = markW := by decide +kernel
set_option maxHeartbeats 800000 in
theorem word_any (w : World) (hp : PWt w) : Calls Tryz.prog 42 #[.int .i64 777777] w fun e w' => e = .returned (.string markW) ∧ Below w.heap.size w w' := by
  have hm := mark_itoa
  have hsz : (⟨(Lib.itoa 777777).toArray⟩ : ByteArray).size ≤ 20 := by decide +kernel
  go_enter Tryz.func42, Tryz.ntmps42
  go_wp2_with fail
  refine (Tryz.strconv_Itoa 777777 (by omega) (by omega) _ hp).mono ?_
  rintro e w1 ⟨rfl, k, os, rfl⟩
  have hb := Lib.below_grow w.heap.size w (Nat.le_refl _) k os
  generalize Go.Sort.grow (w.drewN k) os = w1 at hb ⊢
  generalize (⟨(Lib.itoa 777777).toArray⟩ : ByteArray) = S at hm hsz ⊢
  go_wp2
  go_ret
  exact ⟨by first | rfl | (rw [← hm]; rfl), hb⟩
theorem expr_results {fn : Func} {sl : Nat} (hr : fn.results = #[.cell sl 46]) {W : World} {tmps : Array Value} {b : Nat} {op : Int} {t : T} {s : Value} (h2 : tmps.getD sl undef = .pointer (some ⟨b, 0, none⟩))
    (h : XAt W b 0 op t s) :
    (results fn tmps).run Tryz.prog W = .ok (.agg #[.int .i8 op, .string t.v, .int .i8 t.a.k, .int .i64 t.a.n, .string t.a.s, s]) W := by
  obtain ⟨c0, c1, c2, c3, c4, c5⟩ := h
  have hl : (loadVar 46 ⟨b, 0, none⟩).run Tryz.prog W = .ok (.agg #[.int .i8 op, .string t.v, .int .i8 t.a.k, .int .i64 t.a.n, .string t.a.s, s]) W := by
    refine run_loadVar_mid W b 0 46 [.int .i8 op, .string t.v, .int .i8 t.a.k, .int .i64 t.a.n, .string t.a.s, s] _ (fun j v hj => ?_) Tryz.underlying46 rfl (by kernel_rfl)
    match j, hj with
    | 0, hj => simp at hj; subst hj; exact c0
    | 1, hj => simp at hj; subst hj; exact c1
    | 2, hj => simp at hj; subst hj; exact c2
    | 3, hj => simp at hj; subst hj; exact c3
    | 4, hj => simp at hj; subst hj; exact c4
    | 5, hj => simp at hj; subst hj; exact c5
  have e0 : results fn tmps = (do
      let x ← asAddr (tmps.getD sl undef)
      loadVar 46 x) := by
    simp [results, hr]
  rw [e0, h2]
  simp [asAddr, hl, Result.andThen]
/-- six cells in block b, that may be written -/
def Own6 (w : World) (b : Nat) : Prop := (∃ o t s, XAt w b 0 o t s) ∧ (∀ j, w.frozen? ⟨b, j, none⟩ = false) ∧ b < w.heap.size
theorem Own6.below {w w1 : World} {b : Nat} (h : Own6 w b) (hb : Below w.heap.size w w1) : Own6 w1 b := by
  obtain ⟨⟨o, t, s, hx⟩, hf, hl⟩ := h
  exact ⟨⟨o, t, s, hx.below hb hl⟩, fun j => by rw [hb.frozen (p := ⟨b, j, none⟩) hl]; exact hf j, Nat.lt_of_lt_of_le hl hb.size⟩
theorem own6_new (w : World) (o : Int) (t : T) (s : Value) : Own6 (w.alloc (.cells #[.int .i8 o, .string t.v, .int .i8 t.a.k, .int .i64 t.a.n, .string t.a.s, s] 46)) w.heap.size :=
  ⟨⟨o, t, s, ⟨by go_simp, by go_simp, by go_simp, by go_simp, by go_simp, by go_simp⟩⟩, fun j => Lib.frozen_of_heap (heap_alloc_new w _) j, by simp⟩
theorem set6_at {w : World} {b : Nat} (h : Own6 w b) (op : Int) (t : T) (s : Value) : XAt ((((((w.setCell ⟨b, 0, none⟩ (.int .i8 op)).setCell ⟨b, 1, none⟩ (.string t.v)).setCell ⟨b, 2, none⟩ (.int .i8 t.a.k)).setCell ⟨b, 3, none⟩ (.int .i64 t.a.n)).setCell ⟨b, 4, none⟩ (.string t.a.s)).setCell ⟨b, 5, none⟩ s) b 0 op t s := by
  obtain ⟨⟨o, t', s', c0, c1, c2, c3, c4, c5⟩, hf, hl⟩ := h
  have f0 := hf 0; have f1 := hf 1; have f2 := hf 2; have f3 := hf 3; have f4 := hf 4; have f5 := hf 5
  clear hf
  simp only [Nat.zero_add] at c1 c2 c3 c4 c5
  refine ⟨?_, ?_, ?_, ?_, ?_, ?_⟩ <;> go_simp
set_option maxHeartbeats 800000 in
theorem markExpr_any (w : World) (hp : PWt w) : Calls Tryz.prog 74 #[.int .i64 777777] w fun e w' => e = .returned (.agg #[.int .i8 99, .string markW, .int .i8 0, .int .i64 0, .string ⟨#[]⟩, .slice none 0 0]) ∧ Below w.heap.size w w' := by
  have BA := (Below.refl w.heap.size w).alloc (Nat.le_refl _) (.cells #[.int .i8 0, .string ⟨#[]⟩, .int .i8 0, .int .i64 0, .string ⟨#[]⟩, .slice none 0 0] 46)
  have HP : Hid _ := tab_below hp BA
  have HO : Hid (Own6 _ w.heap.size) := own6_new w 0 T0 (.slice none 0 0)
  clear hp
  go_enter Tryz.func74, Tryz.ntmps74
  go_wp2_with fail
  refine (word_any _ HP.out).mono ?_
  rintro e w1 ⟨rfl, b1⟩
  have HO1 : Hid (Own6 w1 w.heap.size) := Own6.below HO.out b1
  have B1 : Hid (Below w.heap.size w w1) := BA.trans (b1.mono BA.size)
  obtain ⟨⟨o, t', s', c0, c1, c2, c3, c4, c5⟩, hf, hl⟩ := HO1.out
  have f0 := hf 0; have f1 := hf 1; have f2 := hf 2; have f3 := hf 3; have f4 := hf 4; have f5 := hf 5
  simp only [Nat.zero_add] at c1 c2 c3 c4 c5
  clear b1 BA hf HO HP
  generalize hmw : markW = MW
  have HM : Hid _ := hmw
  clear hmw
  go_wp2
  refine bodyPost_ret (expr_results Tryz.results74 (op := 99) (t := ⟨MW, V0⟩) (s := .slice none 0 0) rfl (set6_at HO1.out 99 ⟨MW, V0⟩ (.slice none 0 0))) rfl ⟨by rw [HM.out]; rfl, ?_⟩
  exact (((((B1.out.setCell (p := ⟨w.heap.size, 0, none⟩) (Nat.le_refl _) _).setCell (p := ⟨w.heap.size, 1, none⟩) (Nat.le_refl _) _).setCell (p := ⟨w.heap.size, 2, none⟩) (Nat.le_refl _) _).setCell (p := ⟨w.heap.size, 3, none⟩) (Nat.le_refl _) _).setCell (p := ⟨w.heap.size, 4, none⟩) (Nat.le_refl _) _).setCell (p := ⟨w.heap.size, 5, none⟩) (Nat.le_refl _) _
theorem upd_same {α : Type} (f : Nat → α) (k : Nat) (v : α) (h : f k = v) : (fun i => if i = k then v else f i) = f := by
  funext i
  by_cases e : i = k
  · rw [if_pos e, e, h]
  · rw [if_neg e]
/-- what TwinExpr does of an expression of at most d levels -/
def TwinOK (d : Nat) : Prop := ∀ (e : E) (a : Option Addr) (c : Nat) (w : World), PWt w → smallE d e → EIs w d e a c →
  Calls Tryz.prog 41 #[e.val a c] w fun r w' => ∃ a', r = .returned (e.val a' (e.kids.length + 1)) ∧ Below w.heap.size w w' ∧ TwIs w' w.heap.size d e a' (e.kids.length + 1)
set_option maxHeartbeats 3200000 in
theorem twinExprs_any (d : Nat) (hT : TwinOK d) (e : E) (a : Option Addr) (c : Nat) (w : World) (hp : PWt w) (hs : smallE (d + 1) e) (hE : EIs w (d + 1) e a c) :
    Calls Tryz.prog 58 #[.slice a e.kids.length c] w fun r w' => ∃ a', r = .returned (.slice a' e.kids.length (e.kids.length + 1)) ∧ Below w.heap.size w w' ∧ TwIs w' w.heap.size (d + 1) e a' (e.kids.length + 1) := by
  obtain ⟨op, t, kids⟩ := e
  obtain ⟨hop, htw, hc1, hc2, hk⟩ := hE
  obtain ⟨hs1, hs2⟩ := hs
  simp only [op_mk, t_mk, kids_mk] at *
  have hmk := run_make_exprs kids.length hs1
  have HT : Hid _ := hT
  have HK : Hid _ := hk
  have HS2 : Hid _ := hs2
  have HP : Hid (PWt w) := hp
  clear hT hk hs2 hp hop htw hc2
  go_enter Tryz.func58, Tryz.ntmps58
  go_wp2
  go_loopw [4] (fun i wr => ∃ (k : Nat) (S : Nat → Value), k ≤ kids.length ∧ i = .int .i64 k ∧ Below w.heap.size w wr ∧ wr.rowIs w.heap.size 46 ((kids.length + 1) * 6) (rowE (fun i => (atE kids i).op) (fun i => (atE kids i).t) S k) ∧ Hid (∀ i, i < k → ∃ a' c', S i = .slice a' (atE kids i).kids.length c' ∧ TwIs wr (w.heap.size + 1) d (atE kids i) a' c')) (fun i _ => kids.length - (intOf i).toNat)
  case atStart => exact ⟨0, fun _ => .slice none 0 0, Nat.zero_le _, rfl, (Below.refl _ _).alloc (Nat.le_refl _) _, made_exprs w (kids.length + 1) _ _ _, fun i hi => absurd hi (by omega)⟩
  case round =>
    obtain ⟨k, S, hk, rfl, bel, hrow, HTW⟩ := hrel
    clear hmk
    by_cases hlt : k < kids.length
    · have hlt' : (k : Int) < (kids.length : Int) := by omega
      obtain ⟨g, off, rfl, hg, hKS⟩ := HK.out (by omega)
      obtain ⟨a3, c3, hx, hxE⟩ := hKS k hlt
      obtain ⟨y0, y1, y2, y3, y4, y5⟩ := hx.below bel hg
      have HxE : Hid (EIs wr d (atE kids k) a3 c3) := hxE.below bel
      have HxS : Hid (smallE d (atE kids k)) := HS2.out k hlt
      have HR : Hid (wr.rowIs w.heap.size 46 ((kids.length + 1) * 6) (rowE (fun i => (atE kids i).op) (fun i => (atE kids i).t) S k)) := hrow
      obtain ⟨x, hxx⟩ : ∃ x, atE kids k = x := ⟨_, rfl⟩
      rw [hxx] at y0 y1 y2 y3 y4 y5 HxE HxS
      have HXX : Hid _ := hxx
      have HPr : Hid (PWt wr) := tab_below HP.out bel
      have hwlt : w.heap.size < wr.heap.size := hrow.lt
      clear hKS hx hxE hrow hxx
      go_wp2_with fail
      refine (HT.out x a3 c3 _ HPr.out HxS.out HxE.out).mono ?_
      rintro r w1 ⟨a4, rfl, b1, htw1⟩
      have hrow1 : w1.rowIs w.heap.size 46 ((kids.length + 1) * 6) (rowE (fun i => (atE kids i).op) (fun i => (atE kids i).t) S k) := HR.out.of_block (b1.block _ hwlt)
      have HR1 : Hid (w1.rowIs w.heap.size 46 ((kids.length + 1) * 6) (rowE (fun i => (atE kids i).op) (fun i => (atE kids i).t) S k)) := hrow1
      have bel1 : Below w.heap.size w w1 := bel.trans (b1.mono bel.size)
      have HTW1 : Hid (TwIs w1 (w.heap.size + 1) d x a4 (x.kids.length + 1)) := htw1.lower hwlt
      have HTWo : Hid (∀ i, i < k → ∃ a' c', S i = .slice a' (atE kids i).kids.length c' ∧ TwIs w1 (w.heap.size + 1) d (atE kids i) a' c') := fun i hi => by
        obtain ⟨a', c', h1, h2⟩ := HTW.out i hi
        exact ⟨a', c', h1, h2.below b1⟩
      have z0 := hrow1.cell (i := k * 6) (by omega)
      have z1 := hrow1.cell (i := k * 6 + 1) (by omega)
      have z2 := hrow1.cell (i := k * 6 + 2) (by omega)
      have z3 := hrow1.cell (i := k * 6 + 3) (by omega)
      have z4 := hrow1.cell (i := k * 6 + 4) (by omega)
      have z5 := hrow1.cell (i := k * 6 + 5) (by omega)
      have f := hrow1.frozen
      clear hrow1 y0 y1 y2 y3 y4 y5 b1 htw1 HR HTW bel
      generalize rowE (fun i => (atE kids i).op) (fun i => (atE kids i).t) S k (k * 6) = q0 at z0
      generalize rowE (fun i => (atE kids i).op) (fun i => (atE kids i).t) S k (k * 6 + 1) = q1 at z1
      generalize rowE (fun i => (atE kids i).op) (fun i => (atE kids i).t) S k (k * 6 + 2) = q2 at z2
      generalize rowE (fun i => (atE kids i).op) (fun i => (atE kids i).t) S k (k * 6 + 3) = q3 at z3
      generalize rowE (fun i => (atE kids i).op) (fun i => (atE kids i).t) S k (k * 6 + 4) = q4 at z4
      generalize rowE (fun i => (atE kids i).op) (fun i => (atE kids i).t) S k (k * 6 + 5) = q5 at z5
      have hk1 : (k : Int) < (kids.length : Int) + 1 := by omega
      unfold E.val
      go_wp2
      go_roundw
      case rel =>
        refine ⟨k + 1, fun i => if i = k then .slice a4 x.kids.length (x.kids.length + 1) else S i, by omega, by go_num, (((((bel1.setCell (by simp) _).setCell (by simp) _).setCell (by simp) _).setCell (by simp) _).setCell (by simp) _).setCell (by simp) _, ?_, ?_⟩
        · have e1 : (fun i => if i = k then x.op else (atE kids i).op) = fun i => (atE kids i).op := upd_same (fun i => (atE kids i).op) k x.op (by rw [HXX.out])
          have e2 : (fun i => if i = k then x.t else (atE kids i).t) = fun i => (atE kids i).t := upd_same (fun i => (atE kids i).t) k x.t (by rw [HXX.out])
          have := ((((((HR1.out.set (k * 6) (.int .i8 x.op)).set (k * 6 + 1) (.string x.t.v)).set (k * 6 + 2) (.int .i8 x.t.a.k)).set (k * 6 + 3) (.int .i64 x.t.a.n)).set (k * 6 + 4) (.string x.t.a.s)).set (k * 6 + 5) (.slice a4 x.kids.length (x.kids.length + 1))).congr fun j _ => rowE_step (fun i => (atE kids i).op) (fun i => (atE kids i).t) S k j x.op x.t (.slice a4 x.kids.length (x.kids.length + 1))
          rw [e1, e2] at this
          exact this
        · intro i hi
          by_cases e : i = k
          · subst e
            refine ⟨a4, x.kids.length + 1, (if_pos rfl).trans (by rw [HXX.out]), ?_⟩
            rw [HXX.out]
            exact (((((HTW1.out.set (by omega)).set (by omega)).set (by omega)).set (by omega)).set (by omega)).set (by omega)
          · obtain ⟨a', c', h1, h2⟩ := HTWo.out i (by omega)
            exact ⟨a', c', (if_neg e).trans h1, (((((h2.set (by omega)).set (by omega)).set (by omega)).set (by omega)).set (by omega)).set (by omega)⟩
      case measure => simp [intOf]; omega
    · obtain rfl : k = kids.length := by omega
      have HR : Hid (wr.rowIs w.heap.size 46 ((kids.length + 1) * 6) (rowE (fun i => (atE kids i).op) (fun i => (atE kids i).t) S kids.length)) := hrow
      have hwlt : w.heap.size < wr.heap.size := hrow.lt
      clear hrow
      go_wp2_with fail
      refine (markExpr_any _ (tab_below HP.out bel)).mono ?_
      rintro r w1 ⟨rfl, b1⟩
      have hrow1 : w1.rowIs w.heap.size 46 ((kids.length + 1) * 6) (rowE (fun i => (atE kids i).op) (fun i => (atE kids i).t) S kids.length) := HR.out.of_block (b1.block _ hwlt)
      have HR1 : Hid (w1.rowIs w.heap.size 46 ((kids.length + 1) * 6) (rowE (fun i => (atE kids i).op) (fun i => (atE kids i).t) S kids.length)) := hrow1
      have bel1 : Below w.heap.size w w1 := bel.trans (b1.mono bel.size)
      have HTWo : Hid (∀ i, i < kids.length → ∃ a' c', S i = .slice a' (atE kids i).kids.length c' ∧ TwIs w1 (w.heap.size + 1) d (atE kids i) a' c') := fun i hi => by
        obtain ⟨a', c', h1, h2⟩ := HTW.out i hi
        exact ⟨a', c', h1, h2.below b1⟩
      have z0 := hrow1.cell (i := kids.length * 6) (by omega)
      have z1 := hrow1.cell (i := kids.length * 6 + 1) (by omega)
      have z2 := hrow1.cell (i := kids.length * 6 + 2) (by omega)
      have z3 := hrow1.cell (i := kids.length * 6 + 3) (by omega)
      have z4 := hrow1.cell (i := kids.length * 6 + 4) (by omega)
      have z5 := hrow1.cell (i := kids.length * 6 + 5) (by omega)
      have f := hrow1.frozen
      clear hrow1 b1 HR HTW bel
      generalize rowE (fun i => (atE kids i).op) (fun i => (atE kids i).t) S kids.length (kids.length * 6) = q0 at z0
      generalize rowE (fun i => (atE kids i).op) (fun i => (atE kids i).t) S kids.length (kids.length * 6 + 1) = q1 at z1
      generalize rowE (fun i => (atE kids i).op) (fun i => (atE kids i).t) S kids.length (kids.length * 6 + 2) = q2 at z2
      generalize rowE (fun i => (atE kids i).op) (fun i => (atE kids i).t) S kids.length (kids.length * 6 + 3) = q3 at z3
      generalize rowE (fun i => (atE kids i).op) (fun i => (atE kids i).t) S kids.length (kids.length * 6 + 4) = q4 at z4
      generalize rowE (fun i => (atE kids i).op) (fun i => (atE kids i).t) S kids.length (kids.length * 6 + 5) = q5 at z5
      have hk1 : (kids.length : Int) < (kids.length : Int) + 1 := by omega
      obtain ⟨MW, hmw⟩ : ∃ MW, markW = MW := ⟨_, rfl⟩
      rw [hmw]
      have HM : Hid _ := hmw
      clear hmw
      go_wp2
      go_ret
      have hrow2 := ((((((HR1.out.set (kids.length * 6) (.int .i8 99)).set (kids.length * 6 + 1) (.string MW)).set (kids.length * 6 + 2) (.int .i8 0)).set (kids.length * 6 + 3) (.int .i64 0)).set (kids.length * 6 + 4) (.string ⟨#[]⟩)).set (kids.length * 6 + 5) (.slice none 0 0)).congr fun j _ => rowE_step (fun i => (atE kids i).op) (fun i => (atE kids i).t) S kids.length j 99 ⟨MW, V0⟩ (.slice none 0 0)
      refine ⟨some ⟨w.heap.size, 0, none⟩, rfl, (((((bel1.setCell (by simp) _).setCell (by simp) _).setCell (by simp) _).setCell (by simp) _).setCell (by simp) _).setCell (by simp) _, rfl, w.heap.size, rfl, Nat.le_refl _, hrow2.lt, ?_, fun i hi => ?_⟩
      · have := rowE_at hrow2 (i := kids.length) (by omega) (by omega)
        simp only [if_true] at this
        rw [HM.out]
        exact this
      · have hi' : i < kids.length := hi
        have := rowE_at hrow2 (i := i) (by omega) (by omega)
        rw [if_neg (by omega), if_neg (by omega), if_neg (by omega)] at this
        obtain ⟨a', c', h1, h2⟩ := HTWo.out i hi'
        rw [h1] at this
        exact ⟨a', c', this, ((((((h2.set (by omega)).set (by omega)).set (by omega)).set (by omega)).set (by omega)).set (by omega)).lower (by omega)⟩
set_option maxHeartbeats 3200000 in
theorem twinExpr_step (d : Nat) (hT : TwinOK d) : TwinOK (d + 1) := by
  intro e a c w hp hs hE
  have BA := (Below.refl w.heap.size w).alloc (Nat.le_refl _) (.cells #[.int .i8 e.op, .string e.t.v, .int .i8 e.t.a.k, .int .i64 e.t.a.n, .string e.t.a.s, .slice a e.kids.length c] 46)
  have BA1 := (Below.refl w.heap.size w).alloc (Nat.le_refl _) (.cells #[.int .i8 e.op, .string e.t.v, .int .i8 e.t.a.k, .int .i64 e.t.a.n, .string e.t.a.s, .slice a e.kids.length c] 46)
  have BB := BA.alloc BA.size (.cells #[.int .i8 0, .string ⟨#[]⟩, .int .i8 0, .int .i64 0, .string ⟨#[]⟩, .slice none 0 0] 46)
  have HX0 : Hid (XAt ((w.alloc (.cells #[.int .i8 e.op, .string e.t.v, .int .i8 e.t.a.k, .int .i64 e.t.a.n, .string e.t.a.s, .slice a e.kids.length c] 46)).alloc (.cells #[.int .i8 0, .string ⟨#[]⟩, .int .i8 0, .int .i64 0, .string ⟨#[]⟩, .slice none 0 0] 46)) w.heap.size 0 e.op e.t (.slice a e.kids.length c)) := ⟨by go_simp, by go_simp, by go_simp, by go_simp, by go_simp, by go_simp⟩
  have HO0 : Hid (Own6 ((w.alloc (.cells #[.int .i8 e.op, .string e.t.v, .int .i8 e.t.a.k, .int .i64 e.t.a.n, .string e.t.a.s, .slice a e.kids.length c] 46)).alloc (.cells #[.int .i8 0, .string ⟨#[]⟩, .int .i8 0, .int .i64 0, .string ⟨#[]⟩, .slice none 0 0] 46)) (w.heap.size + 1)) := by
    have := own6_new (w.alloc (.cells #[.int .i8 e.op, .string e.t.v, .int .i8 e.t.a.k, .int .i64 e.t.a.n, .string e.t.a.s, .slice a e.kids.length c] 46)) 0 T0 (.slice none 0 0)
    rw [World.size_alloc] at this
    exact this
  have HOx : Hid (Own6 _ w.heap.size) := (own6_new w e.op e.t (.slice a e.kids.length c)).below ((Below.refl _ _).alloc (Nat.le_refl _) (.cells #[.int .i8 0, .string ⟨#[]⟩, .int .i8 0, .int .i64 0, .string ⟨#[]⟩, .slice none 0 0] 46))
  have HP : Hid (PWt _) := tab_below hp BB
  have HE : Hid (EIs _ (d + 1) e a c) := hE.below BB
  have HS : Hid _ := hs
  have HBB : Hid (Below w.heap.size w _) := BB
  clear hp hE hs BA BB
  unfold E.val
  go_enter Tryz.func41, Tryz.ntmps41
  go_wp2_with fail
  refine (twinExprs_any d hT e a c _ HP.out HS.out HE.out).mono ?_
  rintro r w1 ⟨a4, rfl, b1, htw⟩
  have hXw : XAt w1 w.heap.size 0 e.op e.t (.slice a e.kids.length c) := HX0.out.below b1 (by simp; omega)
  have HO1 : Hid (Own6 w1 (w.heap.size + 1)) := Own6.below HO0.out b1
  have HOx1 : Hid (Own6 w1 w.heap.size) := Own6.below HOx.out b1
  have HTW : Hid (TwIs w1 (w.heap.size + 2) (d + 1) e a4 (e.kids.length + 1)) := htw.lower (by simp)
  have HB1 : Hid (Below w.heap.size w w1) := HBB.out.trans (b1.mono HBB.out.size)
  obtain ⟨x0, x1, x2, x3, x4, x5⟩ := hXw
  simp only [Nat.zero_add] at x1 x2 x3 x4 x5
  have hfx := HOx1.out.2.1
  have g5 := hfx 5
  obtain ⟨⟨o, t', s', c0, c1, c2, c3, c4, c5⟩, hf, hl⟩ := HO1.out
  have f0 := hf 0; have f1 := hf 1; have f2 := hf 2; have f3 := hf 3; have f4 := hf 4; have f5 := hf 5
  simp only [Nat.zero_add] at c1 c2 c3 c4 c5
  clear b1 htw hfx hf HO0 HX0 HOx HP HE HS HBB BA1
  go_wp2
  have hO5 : Own6 (w1.setCell ⟨w.heap.size, 5, none⟩ (.slice a4 e.kids.length (e.kids.length + 1))) (w.heap.size + 1) := by
    obtain ⟨⟨o, t', s', hx⟩, hf, hl⟩ := HO1.out
    have hh : (w1.setCell ⟨w.heap.size, 5, none⟩ (.slice a4 e.kids.length (e.kids.length + 1))).heap[w.heap.size + 1]? = w1.heap[w.heap.size + 1]? := heap_setCell_other _ _ _ _ (by show w.heap.size + 1 ≠ w.heap.size; omega)
    exact ⟨⟨o, t', s', hx.of hh⟩, fun j => by have := hf j; unfold World.frozen? at this ⊢; rw [hh]; exact this, by simpa using hl⟩
  refine bodyPost_ret (expr_results Tryz.results41 (op := e.op) (t := e.t) (s := .slice a4 e.kids.length (e.kids.length + 1)) rfl (set6_at hO5 e.op e.t (.slice a4 e.kids.length (e.kids.length + 1)))) rfl ⟨a4, rfl, ?_, ?_⟩
  · exact ((((((HB1.out.setCell (p := ⟨w.heap.size, 5, none⟩) (Nat.le_refl _) _).setCell (p := ⟨w.heap.size + 1, 0, none⟩) (by simp) _).setCell (p := ⟨w.heap.size + 1, 1, none⟩) (by simp) _).setCell (p := ⟨w.heap.size + 1, 2, none⟩) (by simp) _).setCell (p := ⟨w.heap.size + 1, 3, none⟩) (by simp) _).setCell (p := ⟨w.heap.size + 1, 4, none⟩) (by simp) _).setCell (p := ⟨w.heap.size + 1, 5, none⟩) (by simp) _
  · exact (((((((HTW.out.set (by omega)).set (by omega)).set (by omega)).set (by omega)).set (by omega)).set (by omega)).set (by omega)).lower (by omega)
theorem twinOK : ∀ d, TwinOK d
  | 0 => fun _ _ _ _ _ _ h => h.elim
  | d + 1 => twinExpr_step d (twinOK d)
end Go.Proofs.YtkfajjnaadmobaaGreatDoor
end
